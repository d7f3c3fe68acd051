import Derived.RangeFuncNested
import Derived.RangeFuncBound
import Derived.RangeFuncCalls
import Derived.RangeFuncLeaves
import Derived.RangeFuncBox
import Derived.Shelf.Abstract
import Derived.Shelf.RegionOpen
import Derived.WalkKit
import Derived.OwnWalkIn
import Derived.TacticsInMore
import Derived.LoopNIn
import Derived.LoopIn
import Derived.Maps.AppendAt
import Derived.Test.YtiogjbdaaplhpaaZfAE
import Derived.Test.YtiogjbdaaplhpaaZfAQ
section
namespace Go.Proofs.Ytiogjbdaaplhpaa
open Go.ChangeShapes Go.WideShapes Go.ChangeAt Go.RowKit Go.Shelf
set_option linter.unusedVariables false
set_option linter.unusedSimpArgs false
set_option maxRecDepth 8000

attribute [local go_sem] Oper.semAt_some

/-- A child of the node z. -/
abbrev Kd (ns : List PN) (z : Int) : Type := { k : Int // k ∈ kidsZ ns z }
/-- What a round is handed: the child's role, the child. -/
def kEnc (ns : List PN) (G : Nat) (k : Int) : Array Value := #[.int .i64 (rlZ (ndAt ns k).sty), .pointer (some ⟨G + k.toNat, 0, none⟩)]
theorem listIn_load_styAt {F : Fence} {n : Nat} {ops : Array Oper} {rest : List Oper} {op : Oper} {a : Act} {w : World} {Q : Exit → Act → World → Prop} {g o : Nat} {f : Nat → Int}
    (hgd : op.guard = none) (x : Operand) (ho : op.op = .load 41 x) (hx : a.eval x = .pointer (some ⟨g, o, none⟩)) (hg : w.rangeAt g o (sCells f).toList)
    (h : wpListIn F n Try.prog ops Q rest (a.put op.dst (.agg (sCells f))) w) : wpListIn F n Try.prog ops Q (op :: rest) a w := by
  refine wpListIn_plain hgd fun K hK => ⟨fun f hf => ?_, ?_⟩
  · simp [Oper.about, ho] at hf
  · rw [Oper.semAt_eq _ _ _ (by rw [ho]; intro c h; cases h)]
    have e : (execOp a.eval op).run Try.prog w = .ok (.value (.agg (sCells f))) w := by
      unfold execOp
      simp only [ho, hx, Instr.loadAt, Instr.sureAddr, Sem.run_bind, Sem.run_pure, Result.andThen_ok, run_loadVar_mid w g o _ _ _ hg sty_under rfl (sty_sizeL f)]
    rw [e]
    exact hK _ _ h
theorem ichildren (s : Nat) (w : World) :
    Calls Try.prog 131 #[.pointer (some ⟨s, 0, none⟩)] w fun e w' => e = .returned (.func (.func 147) #[] #[.pointer (some ⟨w.heap.size, 0, none⟩)]) ∧ w' = w.alloc (.cells #[.pointer (some ⟨s, 0, none⟩)] 84) := by
  go_enter Try.func131, Try.ntmps131
  go_wp2
  go_ret
  exact ⟨rfl, rfl⟩
set_option maxRecDepth 100000 in
set_option maxHeartbeats 2000000 in
/-- The iterator's rounds, for every body that keeps what lay ahead. -/
theorem ichild1 (n : Nat) (l Bs G b off s : Nat) (a : Option Addr) (ns : List PN) (z : Int) (W0 : World) (hL : Linked W0 G b off (linksOf ns)) (hz : Nds W0 a ns) (ha : a = some ⟨b, off, none⟩) (hp : PtrTo W0 G ns.length z (.pointer (some ⟨s, 0, none⟩))) (hin : nIn ns.length z = true) (ht : treeB ns = true)
    (J Jx : List (Kd ns z) → World → Prop)
    (hY : ∀ pre (x : Kd ns z) W, J pre W → pre.length < (kidsZ ns z).length → YieldAt Fence.wide (n - 1) Try.prog l (kEnc ns G x.1) W fun e W' =>
      (e = .returned (.bool true) ∧ J (pre ++ [x]) W' ∧ Below W0.heap.size W W') ∨ (e = .returned (.bool false) ∧ Jx (pre ++ [x]) W'))
    (W : World) (hJ : AbidesFrom W.heap.size J) (hB : Below W0.heap.size W0 W) (hBs : W.cell? ⟨Bs, 0, none⟩ = some (.pointer (some ⟨s, 0, none⟩))) (h0 : J [] W) :
    CallsIn Fence.wide n Try.prog 147 #[.func (.yield l) #[] #[], .pointer (some ⟨Bs, 0, none⟩)] W fun e W' => (∃ v, e = .returned v) ∧
      ((∃ ys, ys = (kidsZ ns z).attach ∧ J ys W') ∨ (∃ pre, pre <+: (kidsZ ns z).attach ∧ Jx pre W')) := by
  obtain ⟨va, vc, c3, hka⟩ := (hL.below hB).kids (⟨s, rfl, by obtain ⟨s', e, h⟩ := hp; simp at e; subst e; exact h.imp id (fun ⟨h1, _, _⟩ => by rw [hin] at h1; cases h1)⟩ : PtrTo W G ns.length z (.pointer (some ⟨s, 0, none⟩)))
  have hkl := kids_len ht z
  have HL := Lib.hid hL
  have HZ := Lib.hid hz
  have HP := Lib.hid hp
  have HJ := Lib.hid hJ
  have HY := Lib.hid hY
  have HB := Lib.hid hB
  have HT := Lib.hid ht
  have HKA := Lib.hid hka
  have HA := Lib.hid ha
  clear hL hz hp hJ hY hB ht hka ha
  refine callsIn_of_wp Try.func147 rfl trivial ?_ rfl
  simp only [Try.ntmps147, List.size_toArray, List.length_cons, List.length_nil, Nat.reduceAdd, Nat.reduceSub, Array.replicate_succ, Array.replicate_zero, List.push_toArray, List.append_toArray, List.nil_append, List.cons_append]
  gi_wp2
  gi_loopw [4, 10] (fun _ i wr => ∃ k : Nat, k ≤ (kidsZ ns z).length ∧ i = .int .i64 k ∧ J ((kidsZ ns z).attach.take k) wr ∧ Below W0.heap.size W0 wr ∧ Below W0.heap.size W wr)
    (fun _ i _ => (kidsZ ns z).length - (intOf i).toNat)
  case atStart => exact ⟨0, Nat.zero_le _, rfl, h0, HB.out, Below.refl _ _⟩
  case round =>
    obtain ⟨k, hk, rfl, hJs, hb, hbW⟩ := hrel
    have hlo : (0 : Int) ≤ (k : Int) := Int.natCast_nonneg _
    by_cases hlt : k < (kidsZ ns z).length
    · have hhi : (k : Int) < ((kidsZ ns z).length : Int) := by omega
      have hLr := HL.out.below hb
      have hZr := HZ.out.below hb
      obtain ⟨va', vc', c3', hkr⟩ := hLr.kids (HP.out.below hb)
      have eva : (Value.slice va' (kidsZ ns z).length vc') = .slice va (kidsZ ns z).length vc := by
        have h1 := (hbW.cell (p := ⟨s, 3, none⟩) (by obtain ⟨s', e, h⟩ := HP.out; simp at e; subst e; obtain ⟨_, _, h3⟩ := HP.out; exact World.block_lt_of_cell? _ _ (HL.out.kids HP.out).choose_spec.choose_spec.1)).trans c3
        rw [c3'] at h1
        simpa using h1
      simp at eva
      obtain ⟨rfl, rfl⟩ := eva
      obtain ⟨g, s2, rfl, cg, hp2⟩ := hkr k hlt
      obtain ⟨x, htake, hx⟩ : ∃ x : Kd ns z, (kidsZ ns z).attach.take (k + 1) = (kidsZ ns z).attach.take k ++ [x] ∧ (kidsZ ns z).getD k 0 = x.1 :=
        ⟨⟨(kidsZ ns z)[k], List.getElem_mem hlt⟩, by rw [List.take_succ_eq_append_getElem (by simpa using hlt)]; simp, kid_get hlt⟩
      rw [hx] at hp2
      have hkin := (kid_of HT.out x.2).1
      obtain ⟨q, upv, _, _, hzq, hq, hsq, _, c1, _, _, _, _, hnd⟩ := hLr.look hZr HA.out hp2 hkin
      have hs2 : s2 = G + x.1.toNat := by omega
      obtain ⟨kv', tv, hrg, _, _⟩ := hnd
      have RG := Lib.hid (range_styN hrg)
      have HTK := Lib.hid htake
      have HJS := Lib.hid hJs
      have HBR := Lib.hid hb
      have HBW := Lib.hid hbW
      have HY0 := Lib.hid (HY.out ((kidsZ ns z).attach.take k) x)
      have KR := Lib.hid (iroleof (ndAt ns x.1).sty wr)
      have hlk : ((kidsZ ns z).attach.take k).length < (kidsZ ns z).length := by simp; omega
      have HLK := Lib.hid hlk
      clear hrg htake hJs hb hbW hlk hLr hZr hkr hp2 hkin hzq hsq c3' hx
      simp only [kEnc] at HY0
      rw [← hs2] at HY0
      clear hs2
      gi_wp2_with (first
        | ((with_reducible apply listIn_load_styAt); exact rfl; exact rfl; exact rfl; (with_reducible exact RG.out); simp only [Act.put, List.setIfInBounds_toArray, List.set_cons_succ, List.set_cons_zero])
        | fail)
      refine ⟨trivial, fun h => by (simp [Fence.wide] at h), (callsIn_wide.2 KR.out).mono ?_⟩
      rintro e w2 ⟨rfl, b2⟩
      have HJ2 := HJ.out _ _ _ none HJS.out (bel_grown b2 none) (fun r e => by cases e)
      obtain ⟨fn, tmps, assign, body, hy, hR⟩ := HY0.out w2 HJ2 HLK.out
      have HBR2 := Lib.hid (HBR.out.trans (b2.mono HBR.out.size))
      have HBW2 := Lib.hid (HBW.out.trans (b2.mono HBR.out.size))
      clear HJ2 b2 c1 cg
      generalize rlZ (ndAt ns x.1).sty = r at *
      dsimp only
      gi_wp2
      refine ⟨fun h => by (simp [Fence.wide] at h), hR.mono ?_⟩
      rintro e W3 (⟨rfl, hJ3, hk3⟩ | ⟨rfl, hJx3⟩)
      · gi_wp2
        go_roundw
        case rel => exact ⟨k + 1, by omega, by go_num, by rw [HTK.out]; exact hJ3, HBR2.out.trans hk3, HBW2.out.trans hk3⟩
        case measure => simp [intOf]; omega
      · gi_wp2
        refine bodyPost_ret (results_none rfl _ _ _) rfl ?_
        exact ⟨⟨_, rfl⟩, .inr ⟨_, by rw [← HTK.out]; exact List.take_prefix _ _, hJx3⟩⟩
    · obtain rfl : k = (kidsZ ns z).length := by omega
      have hJs' : J (kidsZ ns z).attach wr := by rwa [List.take_of_length_le (by simp)] at hJs
      have HJS := Lib.hid hJs'
      clear hJs hJs' hb hbW
      gi_wp2
      go_end0
      exact ⟨⟨_, rfl⟩, .inl ⟨_, rfl, HJS.out⟩⟩
/-- What linkedNode.children hands back keeps the library's word: all children, in order; or a part from the front, where a round has said 'no more'. -/
theorem ichild_stops (n : Nat) (Bs G b off s : Nat) (a : Option Addr) (ns : List PN) (z : Int) (W0 : World) (hL : Linked W0 G b off (linksOf ns)) (hz : Nds W0 a ns) (ha : a = some ⟨b, off, none⟩) (hp : PtrTo W0 G ns.length z (.pointer (some ⟨s, 0, none⟩))) (hin : nIn ns.length z = true) (ht : treeB ns = true)
    (w : World) (hB : Below W0.heap.size W0 w) (hBs : w.cell? ⟨Bs, 0, none⟩ = some (.pointer (some ⟨s, 0, none⟩))) :
    SeqStopsK Fence.wide n Try.prog 147 #[.pointer (some ⟨Bs, 0, none⟩)] (fun x : Kd ns z => kEnc ns G x.1) (Below W0.heap.size) (fun ys => ys = (kidsZ ns z).attach) (fun pre => pre <+: (kidsZ ns z).attach) (kidsZ ns z).length w :=
  fun l J Jx W hW hJ hJx hY h0 =>
    ichild1 n l Bs G b off s a ns z W0 hL hz ha hp hin ht J Jx hY W hJ (hB.trans (hW.mono hB.size)) ((hW.cell (p := ⟨Bs, 0, none⟩) (World.block_lt_of_cell? _ _ hBs)).trans hBs) h0
set_option linter.unusedVariables false
set_option linter.unusedSimpArgs false
set_option maxRecDepth 8000

attribute [local go_sem] Oper.semAt_some

/-- The pointer to the node k. -/
def pK (G : Nat) (k : Int) : Value := .pointer (some ⟨G + k.toNat, 0, none⟩)
theorem fK_hit {ns : List PN} {r : Int} {pre : List Int} {k : Int} (h : rlZ (ndAt ns k).sty = r) : fK ns r (pre ++ [k]) = fK ns r pre ++ [k] := by simp [fK, h]
theorem fK_miss {ns : List PN} {r : Int} {pre : List Int} {k : Int} (h : rlZ (ndAt ns k).sty ≠ r) : fK ns r (pre ++ [k]) = fK ns r pre := by simp [fK, h]
/-- A row of pointers to nodes, the call's own. -/
def RowP (b : Nat) (v : Value) (G : Nat) (ks : List Int) (w : World) : Prop := w.ownsRow b 84 1 v ks.length (ks.map (pK G))
def PsPost (G : Nat) (ks : List Int) (w : World) (e : Ending) (w' : World) : Prop := ∃ v, e = .returned v ∧ RowP w.heap.size v G ks w' ∧ Below w.heap.size w w'
/-- The children's numbers of a list of rounds. -/
abbrev kV {ns : List PN} {z : Int} (pre : List (Kd ns z)) : List Int := pre.map (·.1)
set_option maxRecDepth 100000 in
set_option maxHeartbeats 2000000 in
theorem ikidsin (r : Int) (G b off s : Nat) (a : Option Addr) (ns : List PN) (z : Int) (w : World) (hL : Linked w G b off (linksOf ns)) (hz : Nds w a ns) (ha : a = some ⟨b, off, none⟩) (hp : PtrTo w G ns.length z (.pointer (some ⟨s, 0, none⟩))) (hin : nIn ns.length z = true) (ht : treeB ns = true) :
    Calls Try.prog 91 #[.pointer (some ⟨s, 0, none⟩), .int .i64 r] w (PsPost G (fK ns r (kidsZ ns z)) w) := by
  obtain ⟨i0, hi, hz0, hz1, hz2⟩ := info_parts info_ptr
  refine (callsIn_wide (n := 6)).1 ?_
  refine callsIn_of_wp_marks Try.func91 rfl trivial ?_ rfl
  simp only [Try.ntmps91, List.size_toArray, List.length_cons, List.length_nil, Nat.reduceAdd, Nat.reduceSub, Array.replicate_succ, Array.replicate_zero, List.push_toArray, List.append_toArray, List.nil_append, List.cons_append]
  gi_wp2_with (refine ⟨trivial, ?_⟩; gi_at_call 131; refine (callsIn_wide.2 (ichildren s _)).mono ?_; rintro e w' ⟨rfl, rfl⟩)
  have b0 := Boxed.new w 105 (.int .i64 r)
  obtain ⟨w1, e1⟩ : ∃ x, x = w.alloc (.cells #[.int .i64 r] 105) := ⟨_, rfl⟩
  have hs1 : w1.heap.size = w.heap.size + 1 := by rw [e1]; simp
  have hB1 : Below w.heap.size w w1 := by rw [e1]; exact (Below.refl _ w).alloc (Nat.le_refl _) _
  rw [← e1] at b0 ⊢
  have b1 := Boxed.new w1 81 (.slice none 0 0)
  obtain ⟨w2, e2⟩ : ∃ x, x = w1.alloc (.cells #[.slice none 0 0] 81) := ⟨_, rfl⟩
  have hs2 : w2.heap.size = w.heap.size + 2 := by rw [e2]; simp; omega
  have hB2 : Below w1.heap.size w1 w2 := by rw [e2]; exact (Below.refl _ w1).alloc (Nat.le_refl _) _
  rw [hs1] at b1
  (try simp only [hs1, Nat.add_assoc, Nat.reduceAdd])
  rw [← e2] at b1 ⊢
  have b2 := Boxed.new w2 84 (.pointer (some ⟨s, 0, none⟩))
  obtain ⟨w3, e3⟩ : ∃ x, x = w2.alloc (.cells #[.pointer (some ⟨s, 0, none⟩)] 84) := ⟨_, rfl⟩
  have hs3 : w3.heap.size = w.heap.size + 3 := by rw [e3]; simp; omega
  have hB3 : Below w1.heap.size w1 w3 := by rw [e3]; exact hB2.alloc (by omega) _
  rw [hs2] at b2
  (try simp only [hs2, Nat.add_assoc, Nat.reduceAdd])
  have b1' : Boxed w3 (w.heap.size + 1) 81 (.slice none 0 0) := by rw [e3]; exact b1.alloc _
  rw [← e3] at b2 ⊢
  have hkl := kids_len ht z
  have h1 : 1 ≤ 6 := by omega
  refine wpIn_rangeFunc_ownG rfl (by omega) (gf := 147) (lb := #[.pointer (some ⟨w.heap.size + 2, 0, none⟩)]) rfl trivial (enters_of Try.func147 (by kernel_rfl) rfl)
    (ichild_stops _ (w.heap.size + 2) G b off s a ns z w hL hz ha hp hin ht w3 (hB1.trans (hB3.mono (by omega))) b2.cell) belowK_t (belowK_b (by omega)) (Below.refl _ _) (fun _ => rfl)
    (fun pre W => (∃ v, Boxed W (w.heap.size + 1) 81 v ∧ W.ownsRow w1.heap.size 84 1 v (fK ns r (kV pre)).length ((fK ns r (kV pre)).map (pK G)) ∧ True) ∧ Below w1.heap.size w1 W)
    (fun _ _ _ => False)
    (OwnFrom.and (Own.from (holdsRow_own w1.heap.size (w.heap.size + 1) 81 84 1 (fun pre : List (Kd ns z) => (fK ns r (kV pre)).length) (fun pre => (fK ns r (kV pre)).map (pK G)) (fun pre v => True)) _) (ownFrom_below (by omega) (by omega)))
    (fun _ _ _ _ _ hs _ _ => hs)
    ⟨⟨_, b1', World.ownsRow_nil _ _ _ _, trivial⟩, hB3⟩
    (fun x => { tmps := #[.pointer (some ⟨s, 0, none⟩), .int .i64 r, undef, .pointer (some ⟨w.heap.size, 0, none⟩), .slice none 0 0, .pointer (some ⟨w.heap.size + 1, 0, none⟩), .int .i64 (rlZ (ndAt ns x.1).sty), .pointer (some ⟨G + x.1.toNat, 0, none⟩), .pointer (some ⟨s, 0, none⟩), .func (.func 147) #[] #[.pointer (some ⟨w.heap.size + 2, 0, none⟩)], .int .i64 (rlZ (ndAt ns x.1).sty), .pointer (some ⟨G + x.1.toNat, 0, none⟩), undef, undef, undef, undef, undef, undef, undef, undef], defers := [] }) ?assign ?body ?done ?stop
  case assign =>
    intro l x W K hK
    simp only [kEnc]
    gi_wp2
    exact hK
  case body =>
    rintro l pre x W ⟨⟨v, hv, hrow, _⟩, hB⟩ hlt
    have hc := hv.cell
    have c0 := ((b0.kept (bel_grown hB none) (by simp)) : Boxed W w.heap.size 105 (.int .i64 r)).cell
    have hpl : (fK ns r (kV pre)).length ≤ pre.length := by have := fK_le ns r (kV pre); simpa using this
    have ekv : kV (pre ++ [x]) = kV pre ++ [x.1] := by simp
    have hhit := fK_hit (ns := ns) (r := r) (pre := kV pre) (k := x.1)
    have hmis := fK_miss (ns := ns) (r := r) (pre := kV pre) (k := x.1)
    have HH := Lib.hid hhit
    have HM := Lib.hid hmis
    have EK := Lib.hid ekv
    clear hhit hmis ekv
    generalize rlZ (ndAt ns x.1).sty = q at *
    gi_wp2_with (gi_at_builtin; refine wpListIn_append_own _ rfl _ _ 81 rfl w1.heap.size 84 i0 (.pointer none) 1 8 Try.underlying81 hi hz0 hz1 hz2 rfl (by decide) _ _ _ rfl (hrow.alloc _) ⟨W.heap.size, 0, none⟩ 1 1 [pK G x.1] rfl rfl (cell_one_new _ _ _) (by simp [pK, Value.oneCell']) (by have := List.length_pos_of_mem x.2; simp only [maxLen]; omega) (by omega) (by have := hB.size; simp; omega) ?_; intro v' w1' hown' hgrow _; obtain ⟨g', cap', rfl⟩ := ownsRow_succ hown'; obtain ⟨hv1, hv2, hr2, hk2, hb2⟩ := hv.appended (by decide) hrow hB.size (by omega) hown' hgrow; have hc1 := hv1.cell; have hf1 := hv1.frozen)
    · have hx : q = r := beq_iff_eq.1 (by assumption)
      exact ⟨hk2.from _, hb2.mono (by omega), ⟨_, hv2, by rw [EK.out, HH.out hx]; simpa using hr2, trivial⟩, hB.trans hb2⟩
    · have hx : ¬ q = r := by (have h : (q == r) = false := by assumption); simpa using h
      exact ⟨KeepsFrom.refl _ _, Below.refl _ _, ⟨v, hv, by rw [EK.out, HM.out hx]; exact hrow, trivial⟩, hB⟩
  case done =>
    rintro D ys W hD rfl ⟨⟨v, hv, hrow, _⟩, hB⟩ hK
    have hc := hv.cell
    gi_wp2
    refine ⟨by simp, .inl ⟨_, _, rfl, run_takeDeferred hK, ?_⟩⟩
    refine ⟨_, results_tmp rfl _ _ _, v, rfl, ?_, ?_⟩
    · have h := ownsRow_putObj hrow (.deferred none) hK rfl
      have e : kV (kidsZ ns z).attach = kidsZ ns z := by simp
      rw [e] at h
      exact ⟨h.1, h.2.imp id fun ⟨g, cap, cur, h1, h2, h3⟩ => ⟨g, cap, cur, h1, by omega, h3⟩⟩
    · exact hB1.trans ((hB.trans (belowK_b (w := w1) (Nat.le_refl _) W D _ _ (by omega) hK rfl rfl)).mono (by omega))
  case stop =>
    rintro D c pre W _ _ h _
    exact h.elim
set_option linter.unusedVariables false
set_option linter.unusedSimpArgs false
set_option maxRecDepth 8000

theorem info_nm1 : (Try.prog.info? 3).map (fun i => (i.zero, i.size, i.bytes)) = some (some (.int .i64 0), 1, 8) := by kernel_rfl
theorem ownsRow_le {b b' : Nat} {e : TypeId} {v : Value} {n : Nat} {xs : List Value} {w : World} (h : w.ownsRow b e 1 v n xs) (hb : b' ≤ b) : w.ownsRow b' e 1 v n xs :=
  ⟨h.1, h.2.imp id fun ⟨g, cap, cur, h1, h2, h3⟩ => ⟨g, cap, cur, h1, by omega, h3⟩⟩
/-- A slice of pointers to linked nodes, to be read: their numbers. -/
def NumAt (w : World) (va : Option Addr) (ks : List Int) : Prop :=
  ∀ j, j < ks.length → ∃ g s, va = some ⟨g, 0, none⟩ ∧ w.cell? ⟨g, j, none⟩ = some (.pointer (some ⟨s, 0, none⟩)) ∧ w.cell? ⟨s, 0, none⟩ = some (.int .i64 (ks.getD j 0))
theorem NumAt.below {w w' : World} {va : Option Addr} {ks : List Int} (h : NumAt w va ks) (hb : Below w.heap.size w w') : NumAt w' va ks := fun j hj => by
  obtain ⟨g, s, e, c1, c2⟩ := h j hj
  exact ⟨g, s, e, (hb.cell (p := ⟨g, j, none⟩) (World.block_lt_of_cell? _ _ c1)).trans c1, (hb.cell (p := ⟨s, 0, none⟩) (World.block_lt_of_cell? _ _ c2)).trans c2⟩
def NmRel (ks : List Int) (w : World) (v i : Value) (wr : World) : Prop :=
  ∃ k : Nat, k ≤ ks.length ∧ i = .int .i64 k ∧ RowI w.heap.size v (ks.take k) wr ∧ Below w.heap.size w wr
set_option maxHeartbeats 1000000 in
theorem inumbersof (va : Option Addr) (vc : Nat) (ks : List Int) (w : World) (hl : ks.length ≤ 1048576) (h : NumAt w va ks) :
    Calls Try.prog 94 #[.slice va ks.length vc] w (OutPost ks w) := by
  obtain ⟨i0, hi, hz0, hz1, hz2⟩ := info_parts info_nm1
  have HN := Lib.hid h
  clear h
  go_enter Try.func94, Try.ntmps94
  go_wp2_with (fail)
  go_loopw [3, 5, 8] (fun v _ i wr => NmRel ks w v i wr) (fun _ _ i _ => ks.length - (intOf i).toNat)
  case atStart => exact ⟨0, Nat.zero_le _, rfl, World.ownsRow_nil _ _ _ _, Below.refl _ _⟩
  case round =>
    obtain ⟨k, hk, rfl, ho, hb⟩ := hrel
    have HO := Lib.hid ho
    have HB := Lib.hid hb
    by_cases hlt : k < ks.length
    · obtain ⟨g, s, rfl, c1, c2⟩ := (HN.out.below hb) k hlt
      have hlo : (0 : Int) ≤ (k : Int) := Int.natCast_nonneg _
      have hhi : (k : Int) < (ks.length : Int) := by omega
      have hsuc : ks.take (k + 1) = ks.take k ++ [ks.getD k 0] := by
        rw [List.take_succ_eq_append_getElem hlt, List.getD_eq_getElem?_getD, List.getElem?_eq_getElem hlt]; rfl
      have htl : (ks.take k).length = k := by simp; omega
      have HSU := Lib.hid hsuc
      generalize ks.getD k 0 = x at *
      clear ho hb hsuc
      go_wp2_with (at_builtin; refine wpList_append_own _ rfl _ _ 59 rfl w.heap.size 3 i0 (.int .i64 0) 1 8 Try.underlying59 hi hz0 hz1 hz2 rfl (by decide) _ _ _ rfl (World.ownsRow.alloc HO.out _) ⟨wr.heap.size, 0, none⟩ 1 1 [.int .i64 x] rfl rfl (cell_one_new _ _ _) ?c2 ?c3 ?c4 ?c5 ?_)
      case c2 => intro u hu; simp at hu; subst hu; rfl
      case c3 => rw [htl]; unfold maxLen; omega
      case c4 => rw [htl]; omega
      case c5 => have := HB.out.size; simp; omega
      intro v' w3 hown3 hgr _
      have HRA := World.ownsRow.alloc HO.out (.cells #[Value.int .i64 x] 3)
      have B3 := Lib.hid (below_row (HB.out.alloc HB.out.size _) HRA (Nat.le_trans HB.out.size (by simp)) hgr)
      have R3 := Lib.hid (show RowI w.heap.size v' (ks.take (k + 1)) w3 by rw [HSU.out]; unfold RowI; simpa [show min k ks.length = k by omega] using hown3)
      clear hown3 hgr HRA HO c1 c2
      go_wp2
      go_roundw
      case rel => exact ⟨k + 1, by omega, by go_num, R3.out, B3.out⟩
      case measure => simp [intOf]; omega
    · obtain rfl : k = ks.length := by omega
      rw [List.take_length] at HO
      clear ho hb
      go_wp2
      go_ret
      exact ⟨_, rfl, HO.out, HB.out⟩
/-- A row of pointers to nodes, to be read. -/
theorem RowP.num {b0 : Nat} {v : Value} {G b off : Nat} {ns : List PN} {ks : List Int} {w : World} (h : RowP b0 v G ks w) (hL : Linked w G b off (linksOf ns)) (hk : ∀ k ∈ ks, nIn ns.length k = true) : ∃ va vc, v = .slice va ks.length vc ∧ NumAt w va ks := by
  rcases h.2 with ⟨e1, e2⟩ | ⟨g, cap, cur, e1, _⟩
  · exact ⟨none, 0, by rw [e1, e2], fun j hj => by omega⟩
  · subst e1
    refine ⟨_, cap, rfl, fun j hj => ?_⟩
    have hin := hk ks[j] (List.getElem_mem hj)
    obtain ⟨l, q, upv, kv, hzq, hq, hlq, hh, _⟩ := hL.at (z := ks[j]) (by rw [linksOf_len]; exact hin)
    have hg : ks.getD j 0 = ks[j] := by rw [List.getD_eq_getElem?_getD, List.getElem?_eq_getElem hj]; rfl
    refine ⟨g, G + ks[j].toNat, rfl, ?_, ?_⟩
    · rw [World.ownsRow.cellAt h j (by omega), List.getElem?_map, List.getElem?_eq_getElem hj]
      rfl
    · rw [hg, show G + ks[j].toNat = G + 1 + q by omega, hzq]
      exact (Go.Joins.cell_of_block hh 0).trans rfl
end Go.Proofs.Ytiogjbdaaplhpaa
end
