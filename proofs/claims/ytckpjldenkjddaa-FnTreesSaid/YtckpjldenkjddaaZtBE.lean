import Derived.Test.YtckpjldenkjddaaZtBA
import Derived.Test.YtckpjldenkjddaaZtBB
import Derived.Test.YtckpjldenkjddaaZtBD
section
namespace Go.Proofs.Ytckpjldenkjddaa
open Go.ChangeShapes Go.WideShapes Go.ChangeAt Go.RowKit
set_option linter.unusedVariables false
set_option linter.unusedSimpArgs false
set_option maxRecDepth 8000

def insL (ks : List Int) (y at' : Int) : List Int := ks.take at'.toNat ++ [y] ++ ks.drop at'.toNat
def insK (ns : List PN) (z y at' : Int) : List PN := ns.set (z - 1).toNat { ndAt ns z with kids := insL (ndAt ns z).kids y at' }
def insSet (ns : List PN) (z y at' : Int) : List PN := (insK ns z y at').set (y - 1).toNat { ndAt (insK ns z y at') y with up := z }
/-- The code of a refusal ahead of the last test; 0: none. -/
def ikPre (ns : List PN) (z y at' : Int) : Int :=
  if rmB ns z y = true then
    if (y == z || unV ns z y) = true then 2
    else if (upZ ns y != 0 || !rnB at' 0 (ndAt ns z).kids.length) = true then 3
    else if (ndAt ns z).meas = true then 6 else 0
  else 1
def ikC (ns : List PN) (z y at' : Int) : Int := if ikPre ns z y at' = 0 then if treeB (insSet ns z y at') = true then 0 else 7 else ikPre ns z y at'
def ikN (ns : List PN) (z y at' : Int) : List PN := if ikPre ns z y at' = 0 then if treeB (insSet ns z y at') = true then insSet ns z y at' else ns else ns
theorem insL_len {ks : List Int} {y : Int} {m : Nat} (h : m ≤ ks.length) : (insL ks y (m : Int)).length = m + 1 + (ks.length - m) := by
  simp [insL]
  omega
theorem insL_all {ks : List Int} {y : Int} {m : Int} (h : AllI ks) (hy : I64 y) : AllI (insL ks y m) := fun x hx => by
  unfold insL at hx
  simp only [List.mem_append, List.mem_singleton] at hx
  rcases hx with (hx | rfl) | hx
  · exact h x (List.mem_of_mem_take hx)
  · exact hy
  · exact h x (List.mem_of_mem_drop hx)
theorem szL_set : ∀ (l : List PN) (i : Nat) (x : PN), szL (l.set i x) ≤ szL l + szK x
  | [], i, x => by simp [szL]
  | y :: l, 0, x => by simp [szL]; omega
  | y :: l, i + 1, x => by
    have := szL_set l i x
    unfold szL at *
    simp only [List.set_cons_succ, List.map_cons, List.sum_cons]
    omega
theorem szS_set (l : List PN) (i : Nat) (x : PN) : szS (l.set i x) ≤ szS l + szK x := by
  have := szL_set l i x
  unfold szS
  rw [List.length_set]
  omega
theorem insSet_sz {ns : List PN} {p m : Nat} {y : Int} (ht : treeB ns = true) (hp : p < ns.length) (hm : m ≤ (ndAt ns ((p : Int) + 1)).kids.length) : szS (insSet ns ((p : Int) + 1) y (m : Int)) ≤ 1048576 := by
  have h0 := treeB_sz ht
  have h12 := treeB_len ht
  unfold insSet
  have hk := kids_few ht hp
  have hr := rl_few ht hp
  rw [ndAt_nat hp] at hm
  have e1 : ((p : Int) + 1 - 1).toNat = p := by omega
  have h1 : szL (insK ns ((p : Int) + 1) y (m : Int)) ≤ szL ns + 19 := by
    unfold insK
    refine Nat.le_trans (szL_set _ _ _) ?_
    unfold szK
    rw [ndAt_nat hp]
    simp only [insL_len hm]
    omega
  have h2 : (insK ns ((p : Int) + 1) y (m : Int)).length = ns.length := by simp [insK]
  generalize insK ns ((p : Int) + 1) y (m : Int) = K at *
  have h3 : szK (ndAt K y) ≤ szL K := by
    unfold ndAt
    cases e : K[(y - 1).toNat]? with
    | none => simp [szK]; exact Nat.zero_le _
    | some n =>
      obtain ⟨hi, rfl⟩ := List.getElem?_eq_some_iff.1 e
      exact szK_le hi
  refine Nat.le_trans (szS_set _ _ _) ?_
  show szS K + szK (ndAt K y) ≤ 1048576
  unfold szS at *
  omega
theorem inserted_map {ms : List ND} {ns : List PN} {p c : Nat} {ks L : List Int} {lv : Value} {m : Int} (h : ms.map ND.n = ns) (hp : p < ms.length) (hc : c < ms.length) (hk : ks = (ndAt ns ((p : Int) + 1)).kids) (hL : L = insL ks ((c : Int) + 1) m) (h5 : c < (ms.set p (ms[p].kidd L lv)).length) :
    ((ms.set p (ms[p].kidd L lv)).set c ((ms.set p (ms[p].kidd L lv))[c].upd ((p : Int) + 1))).map ND.n = insSet ns ((p : Int) + 1) ((c : Int) + 1) m := by
  subst h hk hL
  have e1 : ((p : Int) + 1 - 1).toNat = p := by omega
  have e2 : ((c : Int) + 1 - 1).toNat = c := by omega
  have hk : insK (ms.map ND.n) ((p : Int) + 1) ((c : Int) + 1) m = (ms.set p (ms[p].kidd (insL (ndAt (ms.map ND.n) ((p : Int) + 1)).kids ((c : Int) + 1) m) lv)).map ND.n := by
    unfold insK
    rw [e1, List.map_set, ndAt_nat (by simpa using hp)]
    congr 1
    simp [ND.kidd]
  have e3 : ∀ x : ND, ndAt ((ms.set p x).map ND.n) ((c : Int) + 1) = ((ms.set p x)[c]'(by simpa using hc)).n := fun x => by
    rw [ndAt_nat (by simpa using hc), List.getElem_map]
  unfold insSet
  rw [e2, hk, List.map_set, e3]
  rfl
theorem OwnN.ndsR' {lo : Nat} {av : Option Addr} {cv : Nat} {ms : List ND} {R : List PN} {w : World} (h : OwnN lo (.slice av ms.length cv) ms w) (hm : ms.map ND.n = R) : Nds w av R := by
  have : ms.length = R.length := by rw [← hm, List.length_map]
  rw [this] at h
  exact h.ndsR hm
theorem ik_ref {ns : List PN} {z y a : Int} {k : Int} (h : ikPre ns z y a = k) (hk : k ≠ 0) : ikN ns z y a = ns ∧ ikC ns z y a = k := by
  unfold ikN ikC
  rw [h, if_neg hk, if_neg hk]
  exact ⟨rfl, rfl⟩
theorem ik_go {ns : List PN} {z y a : Int} (h : ikPre ns z y a = 0) : ikN ns z y a = (if treeB (insSet ns z y a) = true then insSet ns z y a else ns) ∧ ikC ns z y a = (if treeB (insSet ns z y a) = true then 0 else 7) := by
  unfold ikN ikC
  rw [if_pos h, if_pos h]
  exact ⟨rfl, rfl⟩
/-- The slices of children have their length's room. -/
def KCap (w : World) (a : Option Addr) (ns : List PN) : Prop := ∀ (b off i : Nat) (n : PN) (kv tv : Value), a = some ⟨b, off, none⟩ → ns[i]? = some n → w.rangeAt b (off + i * 64) (nL n.up kv n.sty n.meas tv) → ∃ ka kc, kv = .slice ka n.kids.length kc ∧ n.kids.length ≤ kc
theorem OwnN.kcap {lo : Nat} {a : Option Addr} {c : Nat} {ms : List ND} {w : World} (h : OwnN lo (.slice a ms.length c) ms w) : KCap w a (ms.map ND.n) := fun b off i n kv tv ha hn hr => by
  obtain ⟨m, hm, rfl⟩ : ∃ m, ms[i]? = some m ∧ m.n = n := by
    rw [List.getElem?_map] at hn
    cases e : ms[i]? with
    | none => rw [e] at hn; cases hn
    | some m => rw [e] at hn; simp at hn; exact ⟨m, rfl, hn⟩
  have hi := (List.getElem?_eq_some_iff.1 hm).1
  rcases h.1.2 with ⟨e, e2⟩ | ⟨g, cap, cur, e, _⟩
  · omega
  · simp only [Value.slice.injEq] at e
    obtain ⟨rfl, _, rfl⟩ := e
    simp only [Option.some.injEq, Addr.mk.injEq, and_true] at ha
    obtain ⟨rfl, rfl⟩ := ha
    have h1 := hr 1 kv nL_kids
    have h2 : w.cell? ⟨g, i * 64 + 1, none⟩ = some m.kv := by
      rw [World.ownsRow.cellAt h.1 (i * 64 + 1) (by omega), cellsN_at ms i 1 (by omega), hm]
      exact nL_kids
    rw [Nat.zero_add] at h1
    rw [h2] at h1
    cases h1
    obtain ⟨ka, kc, e, hk⟩ := (h.2.1 m (List.mem_of_getElem? hm)).1.2.1
    by_cases h0 : m.n.kids = []
    · exact ⟨ka, kc, e, by rw [h0]; exact Nat.zero_le _⟩
    · have hk := hk.resolve_left h0
      rw [e] at hk
      rcases hk.2 with ⟨e1, e2⟩ | ⟨g', cap', cur', e1, _, _, h4, _⟩
      · rw [List.length_eq_zero_iff] at e2; exact absurd e2 h0
      · simp only [Value.slice.injEq] at e1
        obtain ⟨_, _, rfl⟩ := e1
        exact ⟨ka, _, e, h4⟩
theorem fldMeas (u : Int) (k : Value) (f : Nat → Int) (m : Bool) (t : Value) (w : World) : (Instr.field 61 (.agg (nA u k f m t)) 3).run Try.prog w = .ok (.bool m) w := by kernel_rfl
set_option maxHeartbeats 4000000 in
theorem sinsertkidK (a : Option Addr) (cap : Nat) (ns : List PN) (z y a3 : Int) (w : World) (hz : Nds w a ns) (hl : szS ns ≤ 1048576) (hz0 : I64 z) (hy0 : I64 y) (ha0 : I64 a3) (hcp : KCap w a ns) :
    Calls Try.prog 15 #[.agg #[.slice a ns.length cap], .int .i64 z, .int .i64 y, .int .i64 a3] w (ChPostK (ikN ns z y a3) (ikC ns z y a3) w) := by
  obtain ⟨j0, hj0, hjz0, hjz1, hjz2⟩ := info_parts info_intC
  have bb := Go.Joins.below_alloc2 w (.cells #[.slice a ns.length cap] 26) (.cells #[.slice none 0 0] 26)
  have h0 := hp_on (hp_new w (.cells #[.slice a ns.length cap] 26)) (.cells #[.slice none 0 0] 26)
  have h6 := hp_new (w.alloc (.cells #[.slice a ns.length cap] 26)) (.cells #[.slice none 0 0] 26)
  simp only [World.size_alloc] at h6
  obtain ⟨u, eu⟩ : ∃ u, u = ((w.alloc (.cells #[.slice a ns.length cap] 26)).alloc (.cells #[.slice none 0 0] 26)) := ⟨_, rfl⟩
  rw [← eu] at bb h0 h6
  have hs : u.heap.size = w.heap.size + 2 := by rw [eu]; simp
  have c0 : u.cell? ⟨w.heap.size, 0, none⟩ = some (.slice a ns.length cap) := c_of h0
  have KEY : ∀ (w1 v1 : World) (x : Value) (ms : List ND), OwnN u.heap.size x ms w1 → Below u.heap.size u w1 → v1 = w1.alloc (.cells #[x] 26) → SK w u (.slice a ns.length cap) w1.heap.size x ms v1 := fun w1 v1 x ms ho b1 e => by
    have b2 := bel_alloc w1 (.cells #[x] 26)
    rw [← e] at b2
    have b3 := b1.trans (b2.mono b1.size)
    refine ⟨b3, bb.trans (b3.mono bb.size), hs, b1.size, fun b hb => (ho.1.lt b hb).2, hp_below h0 b3, hp_below h6 b3, ?_, ho.below b2⟩
    rw [e]; exact hp_new _ _
  have EU := Lib.hid eu
  have HZ := Lib.hid (hz.below bb)
  have KEY' := KEY
  clear KEY
  have KEY := Lib.hid KEY'
  clear KEY'
  have hnl : ns.length ≤ 1048576 := by unfold szS at hl; omega
  have KT := Lib.hid (fun w' (h : Nds w' a ns) => streeok a cap ns w' h hl)
  have KIz := Lib.hid (fun w' => sl10is a ns.length cap z w')
  have KIy := Lib.hid (fun w' => sl10is a ns.length cap y w')
  have HBB := Lib.hid bb
  have HZw := Lib.hid hz
  clear hz eu bb h0 h6 hs
  by_cases hb : rmB ns z y = true
  · have hpre : ikPre ns z y a3 = if (y == z || unV ns z y) = true then 2 else if (upZ ns y != 0 || !rnB a3 0 (ndAt ns z).kids.length) = true then 3 else if (ndAt ns z).meas = true then 6 else 0 := by unfold ikPre; rw [if_pos hb]
    have hb' := hb
    unfold rmB at hb'
    obtain ⟨hb1, hN2⟩ := Bool.and_eq_true_iff.1 hb'
    obtain ⟨hT, hN1⟩ := Bool.and_eq_true_iff.1 hb1
    rw [hT] at KT
    rw [hN1] at KIz
    rw [hN2] at KIy
    obtain ⟨b0, off, p, kvp, tvp, rfl, hzp, hp, hx1, hx2, hrgp, hkp, htp⟩ := nd_look HZw.out hN1
    obtain ⟨b0', off', c, kvc, tvc, e2, hyc, hc', hx3, hx4, hrgc, hkc, htc⟩ := nd_look HZ.out hN2
    simp only [Option.some.injEq, Addr.mk.injEq, and_true] at e2
    obtain ⟨rfl, rfl⟩ := e2
    clear hx1 hx2 hx3 hx4
    subst hzp hyc
    obtain ⟨kap', kcp', ekv', hcap⟩ := hcp b0 off p _ kvp tvp rfl (List.getElem?_eq_getElem hp) (by rw [← ndAt_nat hp]; exact hrgp)
    obtain ⟨kap, kcp, rfl, hki⟩ := hkp
    rw [← ndAt_nat hp] at ekv' hcap
    have ecc : kcp' = kcp := by cases ekv'; rfl
    rw [ecc] at hcap
    clear ekv' ecc kap'
    replace hrgp := rg_below hrgp HBB.out
    replace hki := hki.below HBB.out
    clear hcp
    have KU := Lib.hid (fun w' (h : Nds w' (some ⟨b0, off, none⟩) ns) => sisunder (some ⟨b0, off, none⟩) cap ns ((p : Int) + 1) ((c : Int) + 1) w' h hnl hz0)
    have K1 := hkc.one
    have T1 := htc.one
    have T2 := htp.one
    have NC := Lib.hid (fun w' (h : Below u.heap.size u w') => sl10nd b0 off ns.length cap c ((c : Int) + 1) (ndAt ns ((c : Int) + 1)) kvc tvc w' rfl hc' hnl (rg_below hrgc h) K1 T1)
    have NP := Lib.hid (fun w' (h : Below u.heap.size u w') => sl10nd b0 off ns.length cap p ((p : Int) + 1) (ndAt ns ((p : Int) + 1)) (.slice kap (ndAt ns ((p : Int) + 1)).kids.length kcp) tvp w' rfl hp hnl (rg_below hrgp h) rfl T2)
    have KI := Lib.hid hki
    have HT := Lib.hid hT
    have FU := Lib.hid (fldUp (ndAt ns ((c : Int) + 1)).up kvc (ndAt ns ((c : Int) + 1)).sty (ndAt ns ((c : Int) + 1)).meas tvc)
    have FK := Lib.hid (fldKids (ndAt ns ((p : Int) + 1)).up (.slice kap (ndAt ns ((p : Int) + 1)).kids.length kcp) (ndAt ns ((p : Int) + 1)).sty (ndAt ns ((p : Int) + 1)).meas tvp)
    have FM := Lib.hid (fldMeas (ndAt ns ((p : Int) + 1)).up (.slice kap (ndAt ns ((p : Int) + 1)).kids.length kcp) (ndAt ns ((p : Int) + 1)).sty (ndAt ns ((p : Int) + 1)).meas tvp)
    have KR := Lib.hid (srng a3 0 (ndAt ns ((p : Int) + 1)).kids.length)
    have hupc : upZ ns ((c : Int) + 1) = (ndAt ns ((c : Int) + 1)).up := rfl
    rw [hupc] at hpre
    clear hkc htc htp hrgc hrgp hki hT hN1 hN2 hb hb1 hb' hupc K1 T1 T2
    generalize hP : ikPre ns ((p : Int) + 1) ((c : Int) + 1) a3 = P at hpre
    have HP := Lib.hid hP
    clear hP
    by_cases hyz : (c : Int) + 1 = (p : Int) + 1
    · have hP2 : P = 2 := by rw [hpre, if_pos (by simp [hyz])]
      obtain ⟨e1, e2⟩ := ik_ref (HP.out.trans hP2) (by decide)
      rw [e1, e2]
      clear hpre hP2 e1 e2 HP
      have hyt : ((c : Int) + 1 == (p : Int) + 1) = true := by simpa using hyz
      clear hyz
      go_enter Try.func15, Try.ntmps15
      go_wp2_with (first
        | (rw [← EU.out])
        | (go_at_call 68; refine (sl10copyK _ cap ns u HZ.out hl).mono ?_; rintro e w1 ⟨v, ms, hms, rfl, ho, b1, hkcs⟩; have HKCS := Lib.hid hkcs; clear hkcs; obtain ⟨av, cv, rfl⟩ := own_form ho.1; clear c0; obtain ⟨v1, ev1⟩ : ∃ v1, v1 = w1.alloc (.cells #[.slice av ms.length cv] 26) := ⟨_, rfl⟩; have S1 := Lib.hid (KEY.out w1 v1 _ ms ho b1 ev1); have EV1 := Lib.hid ev1; clear ev1 b1 ho; have c3 := S1.out.c3; have HMS := Lib.hid hms; clear hms)
        | (rw [← EV1.out])
        | (go_at_call 18; refine (KT.out _ (HZ.out.below S1.out.bu)).mono ?_; rintro e w2 ⟨rfl, b2⟩; have S2 := Lib.hid (S1.out.kept b2); clear b2 c3; have c3 := S2.out.c3; have c8 := S2.out.c8; have c6 := S2.out.c6; have f6 := Go.Joins.unfrozen_of_block S2.out.h6 0)
        | (go_at_call 69; (first | with_reducible refine (KIz.out _).mono ?_ | with_reducible refine (KIy.out _).mono ?_); rintro e w2 ⟨rfl, b2⟩; replace S2 := Lib.hid (S2.out.kept b2); clear b2 c3 c8 c6 f6; have c3 := S2.out.c3; have c8 := S2.out.c8; have c6 := S2.out.c6; have f6 := Go.Joins.unfrozen_of_block S2.out.h6 0)
        | fail)
      have D := S2.out.done
      obtain ⟨w7, ew7⟩ : ∃ q, q = w2.setCell ⟨w.heap.size + 1, 0, none⟩ (.slice av ms.length cv) := ⟨_, rfl⟩
      rw [← ew7] at D ⊢
      obtain ⟨zc, D1, D2⟩ := D
      exact bodyPost_ret (v := .tuple #[.agg #[.slice av ms.length cv], .int .i64 2]) (by simp only [results, Try.results15]; simp [go_sem, zc]) rfl ⟨_, ms, HMS.out, rfl, D1, D2, HKCS.out⟩
    · have hyf : ((c : Int) + 1 == (p : Int) + 1) = false := by simpa using hyz
      rw [hyf, Bool.false_or] at hpre
      clear hyz
      generalize unV ns ((p : Int) + 1) ((c : Int) + 1) = un at *
      cases un
      case true =>
        have hP2 : P = 2 := by rw [hpre, if_pos rfl]
        obtain ⟨e1, e2⟩ := ik_ref (HP.out.trans hP2) (by decide)
        rw [e1, e2]
        clear hpre hP2 e1 e2 HP
        go_enter Try.func15, Try.ntmps15
        go_wp2_with (first
          | (rw [← EU.out])
          | (go_at_call 68; refine (sl10copyK _ cap ns u HZ.out hl).mono ?_; rintro e w1 ⟨v, ms, hms, rfl, ho, b1, hkcs⟩; have HKCS := Lib.hid hkcs; clear hkcs; obtain ⟨av, cv, rfl⟩ := own_form ho.1; clear c0; obtain ⟨v1, ev1⟩ : ∃ v1, v1 = w1.alloc (.cells #[.slice av ms.length cv] 26) := ⟨_, rfl⟩; have S1 := Lib.hid (KEY.out w1 v1 _ ms ho b1 ev1); have EV1 := Lib.hid ev1; clear ev1 b1 ho; have c3 := S1.out.c3; have HMS := Lib.hid hms; clear hms)
          | (rw [← EV1.out])
          | (go_at_call 18; refine (KT.out _ (HZ.out.below S1.out.bu)).mono ?_; rintro e w2 ⟨rfl, b2⟩; have S2 := Lib.hid (S1.out.kept b2); clear b2 c3; have c3 := S2.out.c3; have c8 := S2.out.c8; have c6 := S2.out.c6; have f6 := Go.Joins.unfrozen_of_block S2.out.h6 0)
          | (go_at_call 69; (first | with_reducible refine (KIz.out _).mono ?_ | with_reducible refine (KIy.out _).mono ?_); rintro e w2 ⟨rfl, b2⟩; replace S2 := Lib.hid (S2.out.kept b2); clear b2 c3 c8 c6 f6; have c3 := S2.out.c3; have c8 := S2.out.c8; have c6 := S2.out.c6; have f6 := Go.Joins.unfrozen_of_block S2.out.h6 0)
          | (go_at_call 47; refine (KU.out _ (HZ.out.below S2.out.bu)).mono ?_; rintro e w2 ⟨rfl, b2⟩; replace S2 := Lib.hid (S2.out.kept b2); clear b2 c3 c8 c6 f6; have c3 := S2.out.c3; have c8 := S2.out.c8; have c6 := S2.out.c6; have f6 := Go.Joins.unfrozen_of_block S2.out.h6 0)
          | (go_at_call 70; with_reducible refine (NC.out _ S2.out.bu).mono ?_; rintro e w2 ⟨rfl, b2⟩; have FF := Lib.hid (FU.out w2); replace S2 := Lib.hid (S2.out.kept b2); clear b2 c3 c8 c6 f6; have c3 := S2.out.c3; have c8 := S2.out.c8; have c6 := S2.out.c6; have f6 := Go.Joins.unfrozen_of_block S2.out.h6 0)
          | (go_at_call 70; with_reducible refine (NP.out _ S2.out.bu).mono ?_; rintro e w2 ⟨rfl, b2⟩; have FFK := Lib.hid (FK.out w2); have FFM := Lib.hid (FM.out w2); replace S2 := Lib.hid (S2.out.kept b2); clear b2 c3 c8 c6 f6; have c3 := S2.out.c3; have c8 := S2.out.c8; have c6 := S2.out.c6; have f6 := Go.Joins.unfrozen_of_block S2.out.h6 0)
          | (go_at_call 71; refine (KR.out _).mono ?_; rintro e w2 ⟨rfl, rfl⟩)
          | (have FF' := FF.out; clear FF; (with_reducible apply list_gfield); exact rfl; exact rfl; exact rfl; (with_reducible exact FF'); simp only [Act.put, List.setIfInBounds_toArray, List.set_cons_succ, List.set_cons_zero]; clear FF')
          | (have FF' := FFK.out; clear FFK; (with_reducible apply list_gfield); exact rfl; exact rfl; exact rfl; (with_reducible exact FF'); simp only [Act.put, List.setIfInBounds_toArray, List.set_cons_succ, List.set_cons_zero]; clear FF')
          | (have FF' := FFM.out; clear FFM; (with_reducible apply list_gfield); exact rfl; exact rfl; exact rfl; (with_reducible exact FF'); simp only [Act.put, List.setIfInBounds_toArray, List.set_cons_succ, List.set_cons_zero]; clear FF')
          | fail)
        have D := S2.out.done
        obtain ⟨w7, ew7⟩ : ∃ q, q = w2.setCell ⟨w.heap.size + 1, 0, none⟩ (.slice av ms.length cv) := ⟨_, rfl⟩
        rw [← ew7] at D ⊢
        obtain ⟨zc, D1, D2⟩ := D
        exact bodyPost_ret (v := .tuple #[.agg #[.slice av ms.length cv], .int .i64 2]) (by simp only [results, Try.results15]; simp [go_sem, zc]) rfl ⟨_, ms, HMS.out, rfl, D1, D2, HKCS.out⟩
      case false =>
        rw [if_neg Bool.false_ne_true] at hpre
        obtain ⟨uv, euv⟩ : ∃ q, q = (ndAt ns ((c : Int) + 1)).up := ⟨_, rfl⟩
        rw [← euv] at hpre NC FU
        obtain ⟨mz, emz⟩ : ∃ q, q = (ndAt ns ((p : Int) + 1)).meas := ⟨_, rfl⟩
        rw [← emz] at hpre NP FK FM
        obtain ⟨rg, erg⟩ : ∃ q, q = rnB a3 0 (ndAt ns ((p : Int) + 1)).kids.length := ⟨_, rfl⟩
        rw [← erg] at hpre KR
        have EUV := Lib.hid euv
        have EMZ := Lib.hid emz
        have ERG := Lib.hid erg
        clear euv emz erg
        by_cases hu : uv = 0
        · subst hu
          cases rg
          case false =>
            have hP2 : P = 3 := by rw [hpre]; rfl
            obtain ⟨e1, e2⟩ := ik_ref (HP.out.trans hP2) (by decide)
            rw [e1, e2]
            clear hpre hP2 e1 e2 HP
            go_enter Try.func15, Try.ntmps15
            go_wp2_with (first
              | (rw [← EU.out])
              | (go_at_call 68; refine (sl10copyK _ cap ns u HZ.out hl).mono ?_; rintro e w1 ⟨v, ms, hms, rfl, ho, b1, hkcs⟩; have HKCS := Lib.hid hkcs; clear hkcs; obtain ⟨av, cv, rfl⟩ := own_form ho.1; clear c0; obtain ⟨v1, ev1⟩ : ∃ v1, v1 = w1.alloc (.cells #[.slice av ms.length cv] 26) := ⟨_, rfl⟩; have S1 := Lib.hid (KEY.out w1 v1 _ ms ho b1 ev1); have EV1 := Lib.hid ev1; clear ev1 b1 ho; have c3 := S1.out.c3; have HMS := Lib.hid hms; clear hms)
              | (rw [← EV1.out])
              | (go_at_call 18; refine (KT.out _ (HZ.out.below S1.out.bu)).mono ?_; rintro e w2 ⟨rfl, b2⟩; have S2 := Lib.hid (S1.out.kept b2); clear b2 c3; have c3 := S2.out.c3; have c8 := S2.out.c8; have c6 := S2.out.c6; have f6 := Go.Joins.unfrozen_of_block S2.out.h6 0)
              | (go_at_call 69; (first | with_reducible refine (KIz.out _).mono ?_ | with_reducible refine (KIy.out _).mono ?_); rintro e w2 ⟨rfl, b2⟩; replace S2 := Lib.hid (S2.out.kept b2); clear b2 c3 c8 c6 f6; have c3 := S2.out.c3; have c8 := S2.out.c8; have c6 := S2.out.c6; have f6 := Go.Joins.unfrozen_of_block S2.out.h6 0)
              | (go_at_call 47; refine (KU.out _ (HZ.out.below S2.out.bu)).mono ?_; rintro e w2 ⟨rfl, b2⟩; replace S2 := Lib.hid (S2.out.kept b2); clear b2 c3 c8 c6 f6; have c3 := S2.out.c3; have c8 := S2.out.c8; have c6 := S2.out.c6; have f6 := Go.Joins.unfrozen_of_block S2.out.h6 0)
              | (go_at_call 70; with_reducible refine (NC.out _ S2.out.bu).mono ?_; rintro e w2 ⟨rfl, b2⟩; have FF := Lib.hid (FU.out w2); replace S2 := Lib.hid (S2.out.kept b2); clear b2 c3 c8 c6 f6; have c3 := S2.out.c3; have c8 := S2.out.c8; have c6 := S2.out.c6; have f6 := Go.Joins.unfrozen_of_block S2.out.h6 0)
              | (go_at_call 70; with_reducible refine (NP.out _ S2.out.bu).mono ?_; rintro e w2 ⟨rfl, b2⟩; have FFK := Lib.hid (FK.out w2); have FFM := Lib.hid (FM.out w2); replace S2 := Lib.hid (S2.out.kept b2); clear b2 c3 c8 c6 f6; have c3 := S2.out.c3; have c8 := S2.out.c8; have c6 := S2.out.c6; have f6 := Go.Joins.unfrozen_of_block S2.out.h6 0)
              | (go_at_call 71; refine (KR.out _).mono ?_; rintro e w2 ⟨rfl, rfl⟩)
              | (have FF' := FF.out; clear FF; (with_reducible apply list_gfield); exact rfl; exact rfl; exact rfl; (with_reducible exact FF'); simp only [Act.put, List.setIfInBounds_toArray, List.set_cons_succ, List.set_cons_zero]; clear FF')
              | (have FF' := FFK.out; clear FFK; (with_reducible apply list_gfield); exact rfl; exact rfl; exact rfl; (with_reducible exact FF'); simp only [Act.put, List.setIfInBounds_toArray, List.set_cons_succ, List.set_cons_zero]; clear FF')
              | (have FF' := FFM.out; clear FFM; (with_reducible apply list_gfield); exact rfl; exact rfl; exact rfl; (with_reducible exact FF'); simp only [Act.put, List.setIfInBounds_toArray, List.set_cons_succ, List.set_cons_zero]; clear FF')
              | fail)
            have D := S2.out.done
            obtain ⟨w7, ew7⟩ : ∃ q, q = w2.setCell ⟨w.heap.size + 1, 0, none⟩ (.slice av ms.length cv) := ⟨_, rfl⟩
            rw [← ew7] at D ⊢
            obtain ⟨zc, D1, D2⟩ := D
            exact bodyPost_ret (v := .tuple #[.agg #[.slice av ms.length cv], .int .i64 3]) (by simp only [results, Try.results15]; simp [go_sem, zc]) rfl ⟨_, ms, HMS.out, rfl, D1, D2, HKCS.out⟩
          case true =>
            cases mz
            case true =>
              have hP2 : P = 6 := by rw [hpre]; rfl
              obtain ⟨e1, e2⟩ := ik_ref (HP.out.trans hP2) (by decide)
              rw [e1, e2]
              clear hpre hP2 e1 e2 HP
              go_enter Try.func15, Try.ntmps15
              go_wp2_with (first
                | (rw [← EU.out])
                | (go_at_call 68; refine (sl10copyK _ cap ns u HZ.out hl).mono ?_; rintro e w1 ⟨v, ms, hms, rfl, ho, b1, hkcs⟩; have HKCS := Lib.hid hkcs; clear hkcs; obtain ⟨av, cv, rfl⟩ := own_form ho.1; clear c0; obtain ⟨v1, ev1⟩ : ∃ v1, v1 = w1.alloc (.cells #[.slice av ms.length cv] 26) := ⟨_, rfl⟩; have S1 := Lib.hid (KEY.out w1 v1 _ ms ho b1 ev1); have EV1 := Lib.hid ev1; clear ev1 b1 ho; have c3 := S1.out.c3; have HMS := Lib.hid hms; clear hms)
                | (rw [← EV1.out])
                | (go_at_call 18; refine (KT.out _ (HZ.out.below S1.out.bu)).mono ?_; rintro e w2 ⟨rfl, b2⟩; have S2 := Lib.hid (S1.out.kept b2); clear b2 c3; have c3 := S2.out.c3; have c8 := S2.out.c8; have c6 := S2.out.c6; have f6 := Go.Joins.unfrozen_of_block S2.out.h6 0)
                | (go_at_call 69; (first | with_reducible refine (KIz.out _).mono ?_ | with_reducible refine (KIy.out _).mono ?_); rintro e w2 ⟨rfl, b2⟩; replace S2 := Lib.hid (S2.out.kept b2); clear b2 c3 c8 c6 f6; have c3 := S2.out.c3; have c8 := S2.out.c8; have c6 := S2.out.c6; have f6 := Go.Joins.unfrozen_of_block S2.out.h6 0)
                | (go_at_call 47; refine (KU.out _ (HZ.out.below S2.out.bu)).mono ?_; rintro e w2 ⟨rfl, b2⟩; replace S2 := Lib.hid (S2.out.kept b2); clear b2 c3 c8 c6 f6; have c3 := S2.out.c3; have c8 := S2.out.c8; have c6 := S2.out.c6; have f6 := Go.Joins.unfrozen_of_block S2.out.h6 0)
                | (go_at_call 70; with_reducible refine (NC.out _ S2.out.bu).mono ?_; rintro e w2 ⟨rfl, b2⟩; have FF := Lib.hid (FU.out w2); replace S2 := Lib.hid (S2.out.kept b2); clear b2 c3 c8 c6 f6; have c3 := S2.out.c3; have c8 := S2.out.c8; have c6 := S2.out.c6; have f6 := Go.Joins.unfrozen_of_block S2.out.h6 0)
                | (go_at_call 70; with_reducible refine (NP.out _ S2.out.bu).mono ?_; rintro e w2 ⟨rfl, b2⟩; have FFK := Lib.hid (FK.out w2); have FFM := Lib.hid (FM.out w2); replace S2 := Lib.hid (S2.out.kept b2); clear b2 c3 c8 c6 f6; have c3 := S2.out.c3; have c8 := S2.out.c8; have c6 := S2.out.c6; have f6 := Go.Joins.unfrozen_of_block S2.out.h6 0)
                | (go_at_call 71; refine (KR.out _).mono ?_; rintro e w2 ⟨rfl, rfl⟩)
                | (have FF' := FF.out; clear FF; (with_reducible apply list_gfield); exact rfl; exact rfl; exact rfl; (with_reducible exact FF'); simp only [Act.put, List.setIfInBounds_toArray, List.set_cons_succ, List.set_cons_zero]; clear FF')
                | (have FF' := FFK.out; clear FFK; (with_reducible apply list_gfield); exact rfl; exact rfl; exact rfl; (with_reducible exact FF'); simp only [Act.put, List.setIfInBounds_toArray, List.set_cons_succ, List.set_cons_zero]; clear FF')
                | (have FF' := FFM.out; clear FFM; (with_reducible apply list_gfield); exact rfl; exact rfl; exact rfl; (with_reducible exact FF'); simp only [Act.put, List.setIfInBounds_toArray, List.set_cons_succ, List.set_cons_zero]; clear FF')
                | fail)
              have D := S2.out.done
              obtain ⟨w7, ew7⟩ : ∃ q, q = w2.setCell ⟨w.heap.size + 1, 0, none⟩ (.slice av ms.length cv) := ⟨_, rfl⟩
              rw [← ew7] at D ⊢
              obtain ⟨zc, D1, D2⟩ := D
              exact bodyPost_ret (v := .tuple #[.agg #[.slice av ms.length cv], .int .i64 6]) (by simp only [results, Try.results15]; simp [go_sem, zc]) rfl ⟨_, ms, HMS.out, rfl, D1, D2, HKCS.out⟩
            case false =>
              have hP2 : P = 0 := by rw [hpre]; rfl
              obtain ⟨e1, e2⟩ := ik_go (HP.out.trans hP2)
              rw [e1, e2]
              clear hpre hP2 e1 e2 HP
              obtain ⟨A, eA⟩ : ∃ A, A = (if treeB (insSet ns ((p : Int) + 1) ((c : Int) + 1) a3) = true then insSet ns ((p : Int) + 1) ((c : Int) + 1) a3 else ns) := ⟨_, rfl⟩
              obtain ⟨C, eC⟩ : ∃ C : Int, C = (if treeB (insSet ns ((p : Int) + 1) ((c : Int) + 1) a3) = true then 0 else 7) := ⟨_, rfl⟩
              rw [← eA, ← eC]
              have EA := Lib.hid eA
              have EC := Lib.hid eC
              clear eA eC
              have hrr : 0 ≤ a3 ∧ a3 ≤ ((ndAt ns ((p : Int) + 1)).kids.length : Int) := of_decide_eq_true ERG.out.symm
              obtain ⟨m, rfl⟩ : ∃ m : Nat, a3 = (m : Int) := ⟨a3.toNat, by omega⟩
              obtain ⟨ks, eks⟩ : ∃ q, q = (ndAt ns ((p : Int) + 1)).kids := ⟨_, rfl⟩
              rw [← eks] at NP FK FM KR KI hcap hrr
              have hml : m ≤ ks.length := (by omega)
              have hmc : (m : Int) ≤ (kcp : Int) := (by omega)
              have hmi : (m : Int) ≤ (ks.length : Int) := hrr.2
              have hm0 : (0 : Int) ≤ (m : Int) := hrr.1
              have hkl : ks.length ≤ 12 := (by rw [eks, ndAt_nat hp]; exact kids_few HT.out hp)
              have hka : AllI ks := (by rw [eks, ndAt_nat hp]; exact (HZ.out.1 _ (List.getElem_mem hp)).2.1)
              have EKV := Lib.hid eks
              clear eks hrr
              go_enter Try.func15, Try.ntmps15
              go_wp2_with (first
                | (rw [← EU.out])
                | (go_at_call 68; refine (sl10copyK _ cap ns u HZ.out hl).mono ?_; rintro e w1 ⟨v, ms, hms, rfl, ho, b1, hkcs⟩; have HKCS := Lib.hid hkcs; clear hkcs; obtain ⟨av, cv, rfl⟩ := own_form ho.1; clear c0; obtain ⟨v1, ev1⟩ : ∃ v1, v1 = w1.alloc (.cells #[.slice av ms.length cv] 26) := ⟨_, rfl⟩; have S1 := Lib.hid (KEY.out w1 v1 _ ms ho b1 ev1); have EV1 := Lib.hid ev1; clear ev1 b1 ho; have c3 := S1.out.c3; have HMS := Lib.hid hms; clear hms)
                | (rw [← EV1.out])
                | (go_at_call 18; refine (KT.out _ (HZ.out.below S1.out.bu)).mono ?_; rintro e w2 ⟨rfl, b2⟩; have S2 := Lib.hid (S1.out.kept b2); clear b2 c3; have c3 := S2.out.c3; have c8 := S2.out.c8; have c6 := S2.out.c6; have f6 := Go.Joins.unfrozen_of_block S2.out.h6 0)
                | (go_at_call 69; (first | with_reducible refine (KIz.out _).mono ?_ | with_reducible refine (KIy.out _).mono ?_); rintro e w2 ⟨rfl, b2⟩; replace S2 := Lib.hid (S2.out.kept b2); clear b2 c3 c8 c6 f6; have c3 := S2.out.c3; have c8 := S2.out.c8; have c6 := S2.out.c6; have f6 := Go.Joins.unfrozen_of_block S2.out.h6 0)
                | (go_at_call 47; refine (KU.out _ (HZ.out.below S2.out.bu)).mono ?_; rintro e w2 ⟨rfl, b2⟩; replace S2 := Lib.hid (S2.out.kept b2); clear b2 c3 c8 c6 f6; have c3 := S2.out.c3; have c8 := S2.out.c8; have c6 := S2.out.c6; have f6 := Go.Joins.unfrozen_of_block S2.out.h6 0)
                | (go_at_call 70; with_reducible refine (NC.out _ S2.out.bu).mono ?_; rintro e w2 ⟨rfl, b2⟩; have FF := Lib.hid (FU.out w2); replace S2 := Lib.hid (S2.out.kept b2); clear b2 c3 c8 c6 f6; have c3 := S2.out.c3; have c8 := S2.out.c8; have c6 := S2.out.c6; have f6 := Go.Joins.unfrozen_of_block S2.out.h6 0)
                | (go_at_call 70; with_reducible refine (NP.out _ S2.out.bu).mono ?_; rintro e w2 ⟨rfl, b2⟩; have FFK := Lib.hid (FK.out w2); have FFM := Lib.hid (FM.out w2); replace S2 := Lib.hid (S2.out.kept b2); clear b2 c3 c8 c6 f6; have c3 := S2.out.c3; have c8 := S2.out.c8; have c6 := S2.out.c6; have f6 := Go.Joins.unfrozen_of_block S2.out.h6 0)
                | (go_at_call 71; refine (KR.out _).mono ?_; rintro e w2 ⟨rfl, rfl⟩)
                | (have FF' := FF.out; clear FF; (with_reducible apply list_gfield); exact rfl; exact rfl; exact rfl; (with_reducible exact FF'); simp only [Act.put, List.setIfInBounds_toArray, List.set_cons_succ, List.set_cons_zero]; clear FF')
                | (have FF' := FFK.out; clear FFK; (with_reducible apply list_gfield); exact rfl; exact rfl; exact rfl; (with_reducible exact FF'); simp only [Act.put, List.setIfInBounds_toArray, List.set_cons_succ, List.set_cons_zero]; clear FF')
                | (have FF' := FFM.out; clear FFM; (with_reducible apply list_gfield); exact rfl; exact rfl; exact rfl; (with_reducible exact FF'); simp only [Act.put, List.setIfInBounds_toArray, List.set_cons_succ, List.set_cons_zero]; clear FF')
                | fail)
              have hpm : p < ms.length := (by rw [map_len HMS.out]; exact hp)
              have hcm : c < ms.length := (by rw [map_len HMS.out]; exact hc')
              obtain ⟨g, eg⟩ := S2.out.ptr (by omega)
              subst eg
              have hwp : IntKind.i64.wrap ((p : Int) + 1 - 1) = (p : Int) := (by rw [show (p : Int) + 1 - 1 = p by omega]; exact IntWalk.i64_in _ (by omega))
              have hwc : IntKind.i64.wrap ((c : Int) + 1 - 1) = (c : Int) := (by rw [show (c : Int) + 1 - 1 = c by omega]; exact IntWalk.i64_in _ (by omega))
              have hwp2 : IntKind.i64.wrap (p : Int) = (p : Int) := IntWalk.i64_in _ (by omega)
              have hlp : (0 : Int) ≤ (p : Int) := Int.natCast_nonneg _
              have hlc : (0 : Int) ≤ (c : Int) := Int.natCast_nonneg _
              have hhp : (p : Int) < (ms.length : Int) := (by omega)
              have hhc : (c : Int) < (ms.length : Int) := (by omega)
              have HS5 := Lib.hid (show w2.drew.cell? ⟨w1.heap.size, 0, none⟩ = some (.slice (some ⟨g, 0, none⟩) ms.length cv) from c8)
              clear c3 c8 c6 f6
              obtain ⟨L, eL⟩ : ∃ q, q = insL ks ((c : Int) + 1) (m : Int) := ⟨_, rfl⟩
              have hLA : AllI L := (by rw [eL]; exact insL_all hka hy0)
              have hll : L.length = m + 1 + (ks.length - m) := (by rw [eL]; exact insL_len hml)
              have hlm : L.map (Value.int .i64) = ([] ++ (ks.take m).map (Value.int .i64)) ++ [.int .i64 ((c : Int) + 1)] ++ (ks.drop m).map (Value.int .i64) := (by rw [eL]; simp [insL])
              have EL := Lib.hid eL
              have HLM := Lib.hid hlm
              clear eL hlm
              refine reg_key5 (fun (v73 v77 v79 v80 v84 : Value) w' => ∃ lv, SK w u (.slice (some ⟨b0, off, none⟩) ns.length cap) w1.heap.size (.slice (some ⟨g, 0, none⟩) ms.length cv) (ms.set p (ms[p].kidd L lv)) w') ?_
              apply Exists.intro
              refine ⟨?pA, ?sA⟩
              case pA =>
               refine wp_region_held_drew (S := fun w' => w'.cell? ⟨w1.heap.size, 0, none⟩ = some (.slice (some ⟨g, 0, none⟩) ms.length cv)) (by kernel_rfl) HS5.out (fun hHeld => ?_)
               refine wpAnyH_take (i := 0) (oi := ⟨some 69, Op.fieldAddr 26 (Operand.tmp 10) 0, _, _, _, _⟩) (v := .pointer (some ⟨w1.heap.size, 0, none⟩)) rfl (by kernel_rfl) (by kernel_rfl) (by kernel_rfl) (fun _ _ _ h => by cases h.1) (Or.inl ⟨by rfl, fun W hW => by (try dsimp only at hW); go_simp <;> with_reducible rfl⟩) hHeld ?_
               simp only [World.size_alloc, Act.put, List.setIfInBounds_toArray, List.set_cons_succ, List.set_cons_zero]
               refine wpAnyH_take (i := 1) (oi := ⟨some 70, Op.load 24 (Operand.tmp 69), _, _, _, _⟩) (v := .slice (some ⟨g, 0, none⟩) ms.length cv) rfl (by kernel_rfl) (by kernel_rfl) (by kernel_rfl) (fun _ _ _ h => by cases h.1) (Or.inl ⟨by rfl, fun W hW => by (try dsimp only at hW); go_simp <;> with_reducible rfl⟩) hHeld ?_
               simp only [World.size_alloc, Act.put, List.setIfInBounds_toArray, List.set_cons_succ, List.set_cons_zero]
               refine wpAnyH_take (i := 2) (oi := ⟨some 71, Op.move (Operand.tmp 1), _, _, _, _⟩) (v := .int .i64 ((p : Int) + 1)) rfl (by kernel_rfl) (by kernel_rfl) (by kernel_rfl) (fun _ _ _ h => by cases h.1) (Or.inl ⟨by rfl, fun W hW => by (try dsimp only at hW); go_simp <;> with_reducible rfl⟩) hHeld ?_
               simp only [World.size_alloc, Act.put, List.setIfInBounds_toArray, List.set_cons_succ, List.set_cons_zero]
               refine wpAnyH_take (i := 3) (oi := ⟨some 72, Op.binOp BinOp.sub 3 (Operand.tmp 71) (Operand.const (Value.int IntKind.i64 1)) 3, _, _, _, _⟩) (v := .int .i64 (p : Int)) rfl (by kernel_rfl) (by kernel_rfl) (by kernel_rfl) (fun _ _ _ h => by cases h.1) (Or.inl ⟨by rfl, fun W hW => by (try dsimp only at hW); go_simp <;> with_reducible rfl⟩) hHeld ?_
               simp only [World.size_alloc, Act.put, List.setIfInBounds_toArray, List.set_cons_succ, List.set_cons_zero]
               refine wpAnyH_take (i := 5) (oi := ⟨some 74, Op.move (Operand.tmp 11), _, _, _, _⟩) (v := .slice kap ks.length kcp) rfl (by kernel_rfl) (by kernel_rfl) (by kernel_rfl) (fun _ _ _ h => by cases h.1) (Or.inl ⟨by rfl, fun W hW => by (try dsimp only at hW); go_simp <;> with_reducible rfl⟩) hHeld ?_
               simp only [World.size_alloc, Act.put, List.setIfInBounds_toArray, List.set_cons_succ, List.set_cons_zero]
               refine wpAnyH_take (i := 6) (oi := ⟨some 75, Op.move (Operand.tmp 3), _, _, _, _⟩) (v := .int .i64 (m : Int)) rfl (by kernel_rfl) (by kernel_rfl) (by kernel_rfl) (fun _ _ _ h => by cases h.1) (Or.inl ⟨by rfl, fun W hW => by (try dsimp only at hW); go_simp <;> with_reducible rfl⟩) hHeld ?_
               simp only [World.size_alloc, Act.put, List.setIfInBounds_toArray, List.set_cons_succ, List.set_cons_zero]
               refine wpAnyH_take (i := 7) (oi := ⟨some 76, Op.slice 59 (Operand.tmp 74) none (some (Operand.tmp 75)) none, _, _, _, _⟩) (v := .slice kap m kcp) rfl (by kernel_rfl) (by kernel_rfl) (by kernel_rfl) (fun _ _ _ h => by cases h.1) (Or.inl ⟨by rfl, fun W hW => by have h := run_sl_h kap ks.length kcp m W (by omega); unfold execOp; simp only [Sem.run_bind, Option.map]; rw [show (Act.eval _ (Operand.tmp 74)) = Value.slice kap ks.length kcp from rfl, show (Act.eval _ (Operand.tmp 75)) = Value.int .i64 (m : Int) from rfl, h]; rfl⟩) hHeld ?_
               simp only [World.size_alloc, Act.put, List.setIfInBounds_toArray, List.set_cons_succ, List.set_cons_zero]
               refine wpAnyH_take (i := 9) (oi := ⟨some 78, Op.move (Operand.tmp 2), _, _, _, _⟩) (v := .int .i64 ((c : Int) + 1)) rfl (by kernel_rfl) (by kernel_rfl) (by kernel_rfl) (fun _ _ _ h => by cases h.1) (Or.inl ⟨by rfl, fun W hW => by (try dsimp only at hW); go_simp <;> with_reducible rfl⟩) hHeld ?_
               simp only [World.size_alloc, Act.put, List.setIfInBounds_toArray, List.set_cons_succ, List.set_cons_zero]
               refine wpAnyH_take (i := 12) (oi := ⟨some 81, Op.move (Operand.tmp 11), _, _, _, _⟩) (v := .slice kap ks.length kcp) rfl (by kernel_rfl) (by kernel_rfl) (by kernel_rfl) (fun _ _ _ h => by cases h.1) (Or.inl ⟨by rfl, fun W hW => by (try dsimp only at hW); go_simp <;> with_reducible rfl⟩) hHeld ?_
               simp only [World.size_alloc, Act.put, List.setIfInBounds_toArray, List.set_cons_succ, List.set_cons_zero]
               refine wpAnyH_take (i := 13) (oi := ⟨some 82, Op.move (Operand.tmp 3), _, _, _, _⟩) (v := .int .i64 (m : Int)) rfl (by kernel_rfl) (by kernel_rfl) (by kernel_rfl) (fun _ _ _ h => by cases h.1) (Or.inl ⟨by rfl, fun W hW => by (try dsimp only at hW); go_simp <;> with_reducible rfl⟩) hHeld ?_
               simp only [World.size_alloc, Act.put, List.setIfInBounds_toArray, List.set_cons_succ, List.set_cons_zero]
               refine wpAnyH_take (i := 14) (oi := ⟨some 83, Op.slice 59 (Operand.tmp 81) (some (Operand.tmp 82)) none none, _, _, _, _⟩) (v := .slice (tailA kap kcp m) (ks.length - m) (kcp - m)) rfl (by kernel_rfl) (by kernel_rfl) (by kernel_rfl) (fun _ _ _ h => by cases h.1) (Or.inl ⟨by rfl, fun W hW => by have h := run_sl_l kap ks.length kcp m W hml; unfold execOp; simp only [Sem.run_bind, Option.map]; rw [show (Act.eval _ (Operand.tmp 81)) = Value.slice kap ks.length kcp from rfl, show (Act.eval _ (Operand.tmp 82)) = Value.int .i64 (m : Int) from rfl, h]; rfl⟩) hHeld ?_
               simp only [World.size_alloc, Act.put, List.setIfInBounds_toArray, List.set_cons_succ, List.set_cons_zero]
               obtain ⟨d, ed⟩ : ∃ d, d = w2.drew := ⟨_, rfl⟩
               rw [← ed]
               have hB : Below w2.heap.size w2 d := (by rw [ed]; exact (Below.refl w2.heap.size w2).drew)
               clear ed hHeld
               refine anyH_2 4 10 rfl rfl (by kernel_rfl) rfl rfl ?_ ?_
               · go_wp2_with (fail)
                 (try dsimp only)
                 obtain ⟨e1, ev⟩ : ∃ q, q = d.alloc (.cells #[] 3) := ⟨_, rfl⟩
                 rw [← ev]
                 have bX : Below d.heap.size d e1 := (by rw [ev]; exact bel_alloc d _)
                 have ho0 : e1.ownsRow w2.heap.size 3 1 (.slice (some ⟨d.heap.size, 0, none⟩) 0 0) 0 [] := (by rw [ev]; exact ownsRow_lower (World.ownsRow_lit d #[] 0 (Nat.le_refl _) (by unfold maxLen; omega) rfl) hB.size)
                 replace hB := hB.trans (bX.mono hB.size)
                 obtain ⟨q1, eq1⟩ : ∃ q, q = d.heap.size := ⟨_, rfl⟩
                 rw [← eq1] at ho0 ⊢
                 have hq1 := (World.ownsRow.lt ho0 q1 rfl).2
                 clear ev eq1 bX
                 refine ⟨(S2.out.kept hB).c8, ?_⟩
                 refine anyH_2 8 10 rfl rfl (by kernel_rfl) rfl rfl ?_ ?_
                 · refine wp_append_any _ _ 59 rfl w2.heap.size 3 j0 (.int .i64 0) 1 8 Try.underlying59 hj0 hjz0 hjz1 hjz2 rfl (by decide) (.slice (some ⟨q1, 0, none⟩) 0 0) 0 [] rfl ho0 kap m kcp ((ks.take m).map (Value.int .i64)) rfl (by simp [hml]) (ins_src1 (KI.out.below (S2.out.kept hB).bu) hml) (ints_one' _) (by unfold maxLen; omega) (by omega) hB.size ?_
                   intro v1 e2 hown hgr hat
                   rw [Nat.zero_add] at hown
                   obtain ⟨la1, lc1, rfl⟩ := own_form hown
                   replace hB : Below w2.heap.size w2 e2 := hB.grown hgr hB.size (fun q hq => by have := (World.ownsRow.lt ho0 q hq).1; omega)
                   have ho1 := hown
                   have hl1 := fun b hb => (World.ownsRow.lt ho1 b hb).2
                   clear hown hgr hat ho0
                   simp only [Act.put, List.setIfInBounds_toArray, List.set_cons_zero, List.set_cons_succ]
                   refine ⟨(S2.out.kept hB).c8, ?_⟩
                   refine anyH_1 10 rfl (by kernel_rfl) rfl ?_
                   go_wp2_with (fail)
                   (try dsimp only)
                   obtain ⟨e3, ev⟩ : ∃ q, q = e2.alloc (.cells #[.int .i64 ((c : Int) + 1)] 3) := ⟨_, rfl⟩
                   rw [← ev]
                   have bX : Below e2.heap.size e2 e3 := (by rw [ev]; exact bel_alloc e2 _)
                   have hq : e3.heap[e2.heap.size]? = some (.cells #[.int .i64 ((c : Int) + 1)] 3) := (by rw [ev]; exact hp_new e2 _)
                   replace ho1 := ownsRow_from ho1 (From.of_below bX)
                   replace hB := hB.trans (bX.mono hB.size)
                   obtain ⟨q2, eq2⟩ : ∃ q, q = e2.heap.size := ⟨_, rfl⟩
                   rw [← eq2] at hq ⊢
                   have hq2 := hp_lt hq
                   have hr1 : ∀ b, (Value.slice la1 m lc1).ownBlock = some b → b ≠ q2 := fun b hb => (by have := (hl1 b hb); omega)
                   clear ev eq2 bX
                   refine ⟨(S2.out.kept hB).c8, ?_⟩
                   refine anyH_1 11 rfl (by kernel_rfl) rfl ?_
                   have hn := World.news_of_block hq
                   refine wp_append_any _ _ 59 rfl w2.heap.size 3 j0 (.int .i64 0) 1 8 Try.underlying59 hj0 hjz0 hjz1 hjz2 rfl (by decide) (.slice la1 m lc1) m _ rfl ho1 (some ⟨q2, 0, none⟩) 1 1 [.int .i64 ((c : Int) + 1)] rfl rfl (Or.inr ⟨_, rfl, hn⟩) (by simp; rfl) (by unfold maxLen; omega) (by omega) hB.size ?_
                   intro v2 e4 hown hgr _
                   obtain ⟨la2, lc2, rfl⟩ := own_form hown
                   replace hB : Below w2.heap.size w2 e4 := hB.grown hgr hB.size (fun q hq => (World.ownsRow.lt ho1 q hq).1)
                   clear hgr hq hn ho1
                   simp only [Act.put, List.setIfInBounds_toArray, List.set_cons_zero, List.set_cons_succ]
                   refine ⟨(S2.out.kept hB).c8, ?_⟩
                   refine anyH_1 15 rfl (by kernel_rfl) rfl ?_
                   refine wp_append_any _ _ 59 rfl w2.heap.size 3 j0 (.int .i64 0) 1 8 Try.underlying59 hj0 hjz0 hjz1 hjz2 rfl (by decide) (.slice la2 (m + 1) lc2) (m + 1) _ rfl hown (tailA kap kcp m) (ks.length - m) (kcp - m) ((ks.drop m).map (Value.int .i64)) rfl (by simp) (ins_src2 (KI.out.below (S2.out.kept hB).bu) hml hcap) (ints_one' _) (by unfold maxLen; omega) (by omega) hB.size ?_
                   intro v3 e5 hown3 hgr _
                   obtain ⟨la3, lc3, rfl⟩ := own_form hown3
                   replace hB : Below w2.heap.size w2 e5 := hB.grown hgr hB.size (fun q hq => (World.ownsRow.lt hown q hq).1)
                   clear hgr hown
                   simp only [Act.put, List.setIfInBounds_toArray, List.set_cons_zero, List.set_cons_succ]
                   refine ⟨(S2.out.kept hB).c8, ?_⟩
                   have hRI : RowI w2.heap.size (.slice la3 (m + 1 + (ks.length - m)) lc3) L e5 := (by unfold RowI; rw [hll, HLM.out]; exact hown3)
                   obtain ⟨⟨vk, ck⟩, fk⟩ := (S2.out.kept hB).thereAt hpm 1 (by decide)
                   obtain ⟨e6, ee6⟩ : ∃ q, q = e5.setCell ⟨g, p * 64 + 1, none⟩ (.slice la3 (m + 1 + (ks.length - m)) lc3) := ⟨_, rfl⟩
                   have S6 := S2.out.kid hpm hB hRI hLA ee6
                   have EE6 := Lib.hid ee6
                   clear hown3 ee6
                   refine anyH_1 16 rfl (by kernel_rfl) rfl ?_
                   go_wp2_with (fail)
                   (try dsimp only)
                   refine ⟨(S2.out.kept hB).c8, ?_⟩
                   refine anyH_1 17 rfl (by kernel_rfl) rfl ?_
                   go_wp2_with (fail)
                   (try dsimp only)
                   refine ⟨(S2.out.kept hB).c8, ?_⟩
                   refine anyH_1 18 rfl (by kernel_rfl) rfl ?_
                   go_wp2_with (fail)
                   (try dsimp only)
                   rw [← EE6.out]
                   simp only [List.length_set] at S6
                   have c86 := S6.c8
                   first | refine ⟨(S2.out.kept hB).c8, ?_⟩ | refine ⟨c86, ?_⟩
                   refine wpAnyH_done (by kernel_rfl) ?_ _
                   obtain ⟨v73, e73⟩ : ∃ q, q = Value.slice (some ⟨q1, 0, none⟩) 0 0 := ⟨_, rfl⟩
                   obtain ⟨v77, e77⟩ : ∃ q, q = Value.slice la1 m lc1 := ⟨_, rfl⟩
                   obtain ⟨v79, e79⟩ : ∃ q, q = Value.slice (some ⟨q2, 0, none⟩) 1 1 := ⟨_, rfl⟩
                   obtain ⟨v80, e80⟩ : ∃ q, q = Value.slice la2 (m + 1) lc2 := ⟨_, rfl⟩
                   obtain ⟨v84, e84⟩ : ∃ q, q = Value.slice la3 (m + 1 + (ks.length - m)) lc3 := ⟨_, rfl⟩
                   rw [← e73, ← e77, ← e79, ← e80, ← e84]
                   first | exact ⟨rfl, v73, v77, v79, v80, v84, ⟨_, S6⟩, rfl⟩ | exact ⟨rfl, ⟨_, S6⟩, v73, v77, v79, v80, v84, rfl⟩
                 · go_wp2_with (fail)
                   (try dsimp only)
                   obtain ⟨e2, ev⟩ : ∃ q, q = e1.alloc (.cells #[.int .i64 ((c : Int) + 1)] 3) := ⟨_, rfl⟩
                   rw [← ev]
                   have bX : Below e1.heap.size e1 e2 := (by rw [ev]; exact bel_alloc e1 _)
                   have hq : e2.heap[e1.heap.size]? = some (.cells #[.int .i64 ((c : Int) + 1)] 3) := (by rw [ev]; exact hp_new e1 _)
                   replace ho0 := ownsRow_from ho0 (From.of_below bX)
                   have hqn : e1.heap.size ≠ q1 := (by omega)
                   replace hB := hB.trans (bX.mono hB.size)
                   obtain ⟨q2, eq2⟩ : ∃ q, q = e1.heap.size := ⟨_, rfl⟩
                   rw [← eq2] at hq hqn ⊢
                   have hq2 := hp_lt hq
                   clear ev eq2 bX
                   refine ⟨(S2.out.kept hB).c8, ?_⟩
                   refine anyH_1 8 rfl (by kernel_rfl) rfl ?_
                   refine wp_append_any _ _ 59 rfl w2.heap.size 3 j0 (.int .i64 0) 1 8 Try.underlying59 hj0 hjz0 hjz1 hjz2 rfl (by decide) (.slice (some ⟨q1, 0, none⟩) 0 0) 0 [] rfl ho0 kap m kcp ((ks.take m).map (Value.int .i64)) rfl (by simp [hml]) (ins_src1 (KI.out.below (S2.out.kept hB).bu) hml) (ints_one' _) (by unfold maxLen; omega) (by omega) hB.size ?_
                   intro v1 e3 hown hgr hat
                   rw [Nat.zero_add] at hown
                   obtain ⟨la1, lc1, rfl⟩ := own_form hown
                   have hq3 := hp_lt hq
                   replace hq := cp_grown hq hgr (fun e => by simp [Value.ownBlock] at e; omega)
                   have hr1 : ∀ b, (Value.slice la1 m lc1).ownBlock = some b → b ≠ q2 := fun b hb => (by rcases hat with h | h <;> (rw [h] at hb; simp [Value.ownBlock] at hb; omega))
                   replace hB : Below w2.heap.size w2 e3 := hB.grown hgr hB.size (fun q hq => by have := (World.ownsRow.lt ho0 q hq).1; omega)
                   have ho1 := hown
                   have hl1 := fun b hb => (World.ownsRow.lt ho1 b hb).2
                   clear hown hgr hat ho0
                   simp only [Act.put, List.setIfInBounds_toArray, List.set_cons_zero, List.set_cons_succ]
                   refine ⟨(S2.out.kept hB).c8, ?_⟩
                   refine anyH_1 11 rfl (by kernel_rfl) rfl ?_
                   have hn := World.news_of_block hq
                   refine wp_append_any _ _ 59 rfl w2.heap.size 3 j0 (.int .i64 0) 1 8 Try.underlying59 hj0 hjz0 hjz1 hjz2 rfl (by decide) (.slice la1 m lc1) m _ rfl ho1 (some ⟨q2, 0, none⟩) 1 1 [.int .i64 ((c : Int) + 1)] rfl rfl (Or.inr ⟨_, rfl, hn⟩) (by simp; rfl) (by unfold maxLen; omega) (by omega) hB.size ?_
                   intro v2 e4 hown hgr _
                   obtain ⟨la2, lc2, rfl⟩ := own_form hown
                   replace hB : Below w2.heap.size w2 e4 := hB.grown hgr hB.size (fun q hq => (World.ownsRow.lt ho1 q hq).1)
                   clear hgr hq hn ho1
                   simp only [Act.put, List.setIfInBounds_toArray, List.set_cons_zero, List.set_cons_succ]
                   refine ⟨(S2.out.kept hB).c8, ?_⟩
                   refine anyH_1 15 rfl (by kernel_rfl) rfl ?_
                   refine wp_append_any _ _ 59 rfl w2.heap.size 3 j0 (.int .i64 0) 1 8 Try.underlying59 hj0 hjz0 hjz1 hjz2 rfl (by decide) (.slice la2 (m + 1) lc2) (m + 1) _ rfl hown (tailA kap kcp m) (ks.length - m) (kcp - m) ((ks.drop m).map (Value.int .i64)) rfl (by simp) (ins_src2 (KI.out.below (S2.out.kept hB).bu) hml hcap) (ints_one' _) (by unfold maxLen; omega) (by omega) hB.size ?_
                   intro v3 e5 hown3 hgr _
                   obtain ⟨la3, lc3, rfl⟩ := own_form hown3
                   replace hB : Below w2.heap.size w2 e5 := hB.grown hgr hB.size (fun q hq => (World.ownsRow.lt hown q hq).1)
                   clear hgr hown
                   simp only [Act.put, List.setIfInBounds_toArray, List.set_cons_zero, List.set_cons_succ]
                   refine ⟨(S2.out.kept hB).c8, ?_⟩
                   have hRI : RowI w2.heap.size (.slice la3 (m + 1 + (ks.length - m)) lc3) L e5 := (by unfold RowI; rw [hll, HLM.out]; exact hown3)
                   obtain ⟨⟨vk, ck⟩, fk⟩ := (S2.out.kept hB).thereAt hpm 1 (by decide)
                   obtain ⟨e6, ee6⟩ : ∃ q, q = e5.setCell ⟨g, p * 64 + 1, none⟩ (.slice la3 (m + 1 + (ks.length - m)) lc3) := ⟨_, rfl⟩
                   have S6 := S2.out.kid hpm hB hRI hLA ee6
                   have EE6 := Lib.hid ee6
                   clear hown3 ee6
                   refine anyH_1 16 rfl (by kernel_rfl) rfl ?_
                   go_wp2_with (fail)
                   (try dsimp only)
                   refine ⟨(S2.out.kept hB).c8, ?_⟩
                   refine anyH_1 17 rfl (by kernel_rfl) rfl ?_
                   go_wp2_with (fail)
                   (try dsimp only)
                   refine ⟨(S2.out.kept hB).c8, ?_⟩
                   refine anyH_1 18 rfl (by kernel_rfl) rfl ?_
                   go_wp2_with (fail)
                   (try dsimp only)
                   rw [← EE6.out]
                   simp only [List.length_set] at S6
                   have c86 := S6.c8
                   first | refine ⟨(S2.out.kept hB).c8, ?_⟩ | refine ⟨c86, ?_⟩
                   refine wpAnyH_done (by kernel_rfl) ?_ _
                   obtain ⟨v73, e73⟩ : ∃ q, q = Value.slice (some ⟨q1, 0, none⟩) 0 0 := ⟨_, rfl⟩
                   obtain ⟨v77, e77⟩ : ∃ q, q = Value.slice la1 m lc1 := ⟨_, rfl⟩
                   obtain ⟨v79, e79⟩ : ∃ q, q = Value.slice (some ⟨q2, 0, none⟩) 1 1 := ⟨_, rfl⟩
                   obtain ⟨v80, e80⟩ : ∃ q, q = Value.slice la2 (m + 1) lc2 := ⟨_, rfl⟩
                   obtain ⟨v84, e84⟩ : ∃ q, q = Value.slice la3 (m + 1 + (ks.length - m)) lc3 := ⟨_, rfl⟩
                   rw [← e73, ← e77, ← e79, ← e80, ← e84]
                   first | exact ⟨rfl, v73, v77, v79, v80, v84, ⟨_, S6⟩, rfl⟩ | exact ⟨rfl, ⟨_, S6⟩, v73, v77, v79, v80, v84, rfl⟩
               · go_wp2_with (fail)
                 (try dsimp only)
                 obtain ⟨e1, ev⟩ : ∃ q, q = d.alloc (.cells #[.int .i64 ((c : Int) + 1)] 3) := ⟨_, rfl⟩
                 rw [← ev]
                 have bX : Below d.heap.size d e1 := (by rw [ev]; exact bel_alloc d _)
                 have hq : e1.heap[d.heap.size]? = some (.cells #[.int .i64 ((c : Int) + 1)] 3) := (by rw [ev]; exact hp_new d _)
                 replace hB := hB.trans (bX.mono hB.size)
                 obtain ⟨q2, eq2⟩ : ∃ q, q = d.heap.size := ⟨_, rfl⟩
                 rw [← eq2] at hq ⊢
                 have hq2 := hp_lt hq
                 clear ev eq2 bX
                 refine ⟨(S2.out.kept hB).c8, ?_⟩
                 refine anyH_1 4 rfl (by kernel_rfl) rfl ?_
                 go_wp2_with (fail)
                 (try dsimp only)
                 obtain ⟨e2, ev⟩ : ∃ q, q = e1.alloc (.cells #[] 3) := ⟨_, rfl⟩
                 rw [← ev]
                 have bX : Below e1.heap.size e1 e2 := (by rw [ev]; exact bel_alloc e1 _)
                 have ho0 : e2.ownsRow w2.heap.size 3 1 (.slice (some ⟨e1.heap.size, 0, none⟩) 0 0) 0 [] := (by rw [ev]; exact ownsRow_lower (World.ownsRow_lit e1 #[] 0 (Nat.le_refl _) (by unfold maxLen; omega) rfl) hB.size)
                 replace hq := hp_below hq bX
                 have hqn : q2 ≠ e1.heap.size := (by omega)
                 replace hB := hB.trans (bX.mono hB.size)
                 obtain ⟨q1, eq1⟩ : ∃ q, q = e1.heap.size := ⟨_, rfl⟩
                 rw [← eq1] at ho0 hqn ⊢
                 have hq1 := (World.ownsRow.lt ho0 q1 rfl).2
                 clear ev eq1 bX
                 refine ⟨(S2.out.kept hB).c8, ?_⟩
                 refine anyH_1 8 rfl (by kernel_rfl) rfl ?_
                 refine wp_append_any _ _ 59 rfl w2.heap.size 3 j0 (.int .i64 0) 1 8 Try.underlying59 hj0 hjz0 hjz1 hjz2 rfl (by decide) (.slice (some ⟨q1, 0, none⟩) 0 0) 0 [] rfl ho0 kap m kcp ((ks.take m).map (Value.int .i64)) rfl (by simp [hml]) (ins_src1 (KI.out.below (S2.out.kept hB).bu) hml) (ints_one' _) (by unfold maxLen; omega) (by omega) hB.size ?_
                 intro v1 e3 hown hgr hat
                 rw [Nat.zero_add] at hown
                 obtain ⟨la1, lc1, rfl⟩ := own_form hown
                 have hq3 := hp_lt hq
                 replace hq := cp_grown hq hgr (fun e => by simp [Value.ownBlock] at e; omega)
                 have hr1 : ∀ b, (Value.slice la1 m lc1).ownBlock = some b → b ≠ q2 := fun b hb => (by rcases hat with h | h <;> (rw [h] at hb; simp [Value.ownBlock] at hb; omega))
                 replace hB : Below w2.heap.size w2 e3 := hB.grown hgr hB.size (fun q hq => by have := (World.ownsRow.lt ho0 q hq).1; omega)
                 have ho1 := hown
                 have hl1 := fun b hb => (World.ownsRow.lt ho1 b hb).2
                 clear hown hgr hat ho0
                 simp only [Act.put, List.setIfInBounds_toArray, List.set_cons_zero, List.set_cons_succ]
                 refine ⟨(S2.out.kept hB).c8, ?_⟩
                 refine anyH_1 11 rfl (by kernel_rfl) rfl ?_
                 have hn := World.news_of_block hq
                 refine wp_append_any _ _ 59 rfl w2.heap.size 3 j0 (.int .i64 0) 1 8 Try.underlying59 hj0 hjz0 hjz1 hjz2 rfl (by decide) (.slice la1 m lc1) m _ rfl ho1 (some ⟨q2, 0, none⟩) 1 1 [.int .i64 ((c : Int) + 1)] rfl rfl (Or.inr ⟨_, rfl, hn⟩) (by simp; rfl) (by unfold maxLen; omega) (by omega) hB.size ?_
                 intro v2 e4 hown hgr _
                 obtain ⟨la2, lc2, rfl⟩ := own_form hown
                 replace hB : Below w2.heap.size w2 e4 := hB.grown hgr hB.size (fun q hq => (World.ownsRow.lt ho1 q hq).1)
                 clear hgr hq hn ho1
                 simp only [Act.put, List.setIfInBounds_toArray, List.set_cons_zero, List.set_cons_succ]
                 refine ⟨(S2.out.kept hB).c8, ?_⟩
                 refine anyH_1 15 rfl (by kernel_rfl) rfl ?_
                 refine wp_append_any _ _ 59 rfl w2.heap.size 3 j0 (.int .i64 0) 1 8 Try.underlying59 hj0 hjz0 hjz1 hjz2 rfl (by decide) (.slice la2 (m + 1) lc2) (m + 1) _ rfl hown (tailA kap kcp m) (ks.length - m) (kcp - m) ((ks.drop m).map (Value.int .i64)) rfl (by simp) (ins_src2 (KI.out.below (S2.out.kept hB).bu) hml hcap) (ints_one' _) (by unfold maxLen; omega) (by omega) hB.size ?_
                 intro v3 e5 hown3 hgr _
                 obtain ⟨la3, lc3, rfl⟩ := own_form hown3
                 replace hB : Below w2.heap.size w2 e5 := hB.grown hgr hB.size (fun q hq => (World.ownsRow.lt hown q hq).1)
                 clear hgr hown
                 simp only [Act.put, List.setIfInBounds_toArray, List.set_cons_zero, List.set_cons_succ]
                 refine ⟨(S2.out.kept hB).c8, ?_⟩
                 have hRI : RowI w2.heap.size (.slice la3 (m + 1 + (ks.length - m)) lc3) L e5 := (by unfold RowI; rw [hll, HLM.out]; exact hown3)
                 obtain ⟨⟨vk, ck⟩, fk⟩ := (S2.out.kept hB).thereAt hpm 1 (by decide)
                 obtain ⟨e6, ee6⟩ : ∃ q, q = e5.setCell ⟨g, p * 64 + 1, none⟩ (.slice la3 (m + 1 + (ks.length - m)) lc3) := ⟨_, rfl⟩
                 have S6 := S2.out.kid hpm hB hRI hLA ee6
                 have EE6 := Lib.hid ee6
                 clear hown3 ee6
                 refine anyH_1 16 rfl (by kernel_rfl) rfl ?_
                 go_wp2_with (fail)
                 (try dsimp only)
                 refine ⟨(S2.out.kept hB).c8, ?_⟩
                 refine anyH_1 17 rfl (by kernel_rfl) rfl ?_
                 go_wp2_with (fail)
                 (try dsimp only)
                 refine ⟨(S2.out.kept hB).c8, ?_⟩
                 refine anyH_1 18 rfl (by kernel_rfl) rfl ?_
                 go_wp2_with (fail)
                 (try dsimp only)
                 rw [← EE6.out]
                 simp only [List.length_set] at S6
                 have c86 := S6.c8
                 first | refine ⟨(S2.out.kept hB).c8, ?_⟩ | refine ⟨c86, ?_⟩
                 refine wpAnyH_done (by kernel_rfl) ?_ _
                 obtain ⟨v73, e73⟩ : ∃ q, q = Value.slice (some ⟨q1, 0, none⟩) 0 0 := ⟨_, rfl⟩
                 obtain ⟨v77, e77⟩ : ∃ q, q = Value.slice la1 m lc1 := ⟨_, rfl⟩
                 obtain ⟨v79, e79⟩ : ∃ q, q = Value.slice (some ⟨q2, 0, none⟩) 1 1 := ⟨_, rfl⟩
                 obtain ⟨v80, e80⟩ : ∃ q, q = Value.slice la2 (m + 1) lc2 := ⟨_, rfl⟩
                 obtain ⟨v84, e84⟩ : ∃ q, q = Value.slice la3 (m + 1 + (ks.length - m)) lc3 := ⟨_, rfl⟩
                 rw [← e73, ← e77, ← e79, ← e80, ← e84]
                 first | exact ⟨rfl, v73, v77, v79, v80, v84, ⟨_, S6⟩, rfl⟩ | exact ⟨rfl, ⟨_, S6⟩, v73, v77, v79, v80, v84, rfl⟩
              case sA =>
                intro v73 v77 v79 v80 v84 w4 hG
                obtain ⟨lv, S4⟩ := hG
                have hls : (ms.set p (ms[p].kidd L lv)).length = ms.length := List.length_set
                rw [← hls] at S4
                have hcm5 : c < (ms.set p (ms[p].kidd L lv)).length := (by simpa using hcm)
                obtain ⟨⟨v2, cv2⟩, fv2⟩ : (∃ v, w4.cell? ⟨g, c * 64, none⟩ = some v) ∧ w4.frozen? ⟨g, c * 64, none⟩ = false := S4.thereAt hcm5 0 (by decide)
                have c84 := S4.c8
                simp only [List.length_set] at c84
                obtain ⟨w5, ew5⟩ : ∃ q, q = w4.setCell ⟨g, c * 64, none⟩ (.int .i64 ((p : Int) + 1)) := ⟨_, rfl⟩
                have S5 := S4.up ((p : Int) + 1) hz0 hcm5 ew5
                have hmm := inserted_map HMS.out hpm hcm EKV.out EL.out (lv := lv) hcm5
                simp only [List.length_set] at S5
                obtain ⟨ms6, e6⟩ : ∃ q, q = (ms.set p (ms[p].kidd L lv)).set c ((ms.set p (ms[p].kidd L lv))[c].upd ((p : Int) + 1)) := ⟨_, rfl⟩
                have HK6 := Lib.hid (show KCs ms6 by
                  have h5 : KCs (ms.set p (ms[p].kidd L lv)) := HKCS.out.set (fun e => absurd e (by show L ≠ []; rw [EL.out]; simp [insL]))
                  rw [e6]
                  exact h5.set (fun e => h5 (ms.set p (ms[p].kidd L lv))[c] (List.getElem_mem _) e))
                rw [← e6] at S5 hmm
                have hl6 : ms6.length = ms.length := (by rw [e6]; simp)
                have hsz : szS (insSet ns ((p : Int) + 1) ((c : Int) + 1) (m : Int)) ≤ 1048576 := insSet_sz HT.out hp (by rw [← EKV.out]; exact hml)
                obtain ⟨NN, eNN⟩ : ∃ q, q = insSet ns ((p : Int) + 1) ((c : Int) + 1) (m : Int) := ⟨_, rfl⟩
                rw [← eNN] at hmm hsz EA EC
                have hlN : ms.length = NN.length := (by rw [← hl6, ← hmm, List.length_map])
                have ho5 := S5.ho
                rw [← hl6] at ho5
                have hN5 := ho5.ndsR' hmm
                have KTN := Lib.hid (streeok (some ⟨g, 0, none⟩) cv NN w5 hN5 hsz)
                rw [← hlN] at KTN
                have c85 := S5.c8
                have c65 := S5.c6
                have EW5 := Lib.hid ew5
                have S5h := Lib.hid S5
                have HMM := Lib.hid hmm
                clear S5 S4 ew5 e6 hN5 ho5 eNN hlN hl6 hls hmm hsz
                obtain ⟨tb, etb⟩ : ∃ q, q = treeB NN := ⟨_, rfl⟩
                rw [← etb] at KTN EA EC
                clear etb
                cases tb
                case true =>
                  have hA : A = NN := EA.out
                  have hC : C = 0 := EC.out
                  clear EA EC
                  subst hA hC
                  go_wp2_with (first
                    | (rw [← EW5.out])
                    | (go_at_call 18; with_reducible refine (KTN.out).mono ?_; rintro e w6 ⟨rfl, b6⟩; have S6 := Lib.hid (S5h.out.kept b6); clear b6 c85 c65; have c86 := S6.out.c8; have c66 := S6.out.c6; have f66 := Go.Joins.unfrozen_of_block S6.out.h6 0)
                    | fail)
                  have D := S6.out.done
                  obtain ⟨w7, ew7⟩ : ∃ q, q = w6.setCell ⟨w.heap.size + 1, 0, none⟩ (.slice (some ⟨g, 0, none⟩) ms.length cv) := ⟨_, rfl⟩
                  rw [← ew7] at D ⊢
                  obtain ⟨zc, D1, D2⟩ := D
                  exact bodyPost_ret (v := .tuple #[.agg #[.slice (some ⟨g, 0, none⟩) ms.length cv], .int .i64 0]) (by simp only [results, Try.results15]; simp [go_sem, zc]) rfl ⟨_, ms6, HMM.out, rfl, D1, D2, HK6.out⟩
                case false =>
                  have hA : A = ns := EA.out
                  have hC : C = 7 := EC.out
                  clear EA EC
                  subst hA hC
                  go_wp2_with (first
                    | (rw [← EW5.out])
                    | (go_at_call 18; with_reducible refine (KTN.out).mono ?_; rintro e w6 ⟨rfl, b6⟩; have S6 := Lib.hid (S5h.out.kept b6); clear b6 c85 c65; have c86 := S6.out.c8; have c36 := S6.out.c3)
                    | (go_at_call 68; refine (sl10copyK _ cap A w6 (HZ.out.below S6.out.bu) hl).mono ?_; rintro e w8 ⟨v8, ms8, hms8, rfl, ho8, b8, hk8⟩; have HK8 := Lib.hid hk8; clear hk8; obtain ⟨av8, cv8, rfl⟩ := own_form ho8.1; have S8 := Lib.hid (S6.out.kept b8); clear c86 c36; have c68 := S8.out.c6; have f68 := Go.Joins.unfrozen_of_block S8.out.h6 0; have HO8 := Lib.hid ho8; clear ho8 b8)
                    | fail)
                  have D := rk_done S8.out.h6 HO8.out (by have := S6.out.bu.size; have := S6.out.hu; omega) S8.out.bw
                  obtain ⟨w9, ew9⟩ : ∃ q, q = w8.setCell ⟨w.heap.size + 1, 0, none⟩ (.slice av8 ms8.length cv8) := ⟨_, rfl⟩
                  rw [← ew9] at D ⊢
                  obtain ⟨zc, D1, D2⟩ := D
                  exact bodyPost_ret (v := .tuple #[.agg #[.slice av8 ms8.length cv8], .int .i64 7]) (by simp only [results, Try.results15]; simp [go_sem, zc]) rfl ⟨_, ms8, hms8, rfl, D1, D2, HK8.out⟩
        · have hP2 : P = 3 := by rw [hpre, if_pos (by simp [hu])]
          obtain ⟨e1, e2⟩ := ik_ref (HP.out.trans hP2) (by decide)
          rw [e1, e2]
          clear hpre hP2 e1 e2 HP
          have hu1 : (uv != 0) = true := by simpa using hu
          have hu2 : (uv == 0) = false := by simpa using hu
          clear hu
          go_enter Try.func15, Try.ntmps15
          go_wp2_with (first
            | (rw [← EU.out])
            | (go_at_call 68; refine (sl10copyK _ cap ns u HZ.out hl).mono ?_; rintro e w1 ⟨v, ms, hms, rfl, ho, b1, hkcs⟩; have HKCS := Lib.hid hkcs; clear hkcs; obtain ⟨av, cv, rfl⟩ := own_form ho.1; clear c0; obtain ⟨v1, ev1⟩ : ∃ v1, v1 = w1.alloc (.cells #[.slice av ms.length cv] 26) := ⟨_, rfl⟩; have S1 := Lib.hid (KEY.out w1 v1 _ ms ho b1 ev1); have EV1 := Lib.hid ev1; clear ev1 b1 ho; have c3 := S1.out.c3; have HMS := Lib.hid hms; clear hms)
            | (rw [← EV1.out])
            | (go_at_call 18; refine (KT.out _ (HZ.out.below S1.out.bu)).mono ?_; rintro e w2 ⟨rfl, b2⟩; have S2 := Lib.hid (S1.out.kept b2); clear b2 c3; have c3 := S2.out.c3; have c8 := S2.out.c8; have c6 := S2.out.c6; have f6 := Go.Joins.unfrozen_of_block S2.out.h6 0)
            | (go_at_call 69; (first | with_reducible refine (KIz.out _).mono ?_ | with_reducible refine (KIy.out _).mono ?_); rintro e w2 ⟨rfl, b2⟩; replace S2 := Lib.hid (S2.out.kept b2); clear b2 c3 c8 c6 f6; have c3 := S2.out.c3; have c8 := S2.out.c8; have c6 := S2.out.c6; have f6 := Go.Joins.unfrozen_of_block S2.out.h6 0)
            | (go_at_call 47; refine (KU.out _ (HZ.out.below S2.out.bu)).mono ?_; rintro e w2 ⟨rfl, b2⟩; replace S2 := Lib.hid (S2.out.kept b2); clear b2 c3 c8 c6 f6; have c3 := S2.out.c3; have c8 := S2.out.c8; have c6 := S2.out.c6; have f6 := Go.Joins.unfrozen_of_block S2.out.h6 0)
            | (go_at_call 70; with_reducible refine (NC.out _ S2.out.bu).mono ?_; rintro e w2 ⟨rfl, b2⟩; have FF := Lib.hid (FU.out w2); replace S2 := Lib.hid (S2.out.kept b2); clear b2 c3 c8 c6 f6; have c3 := S2.out.c3; have c8 := S2.out.c8; have c6 := S2.out.c6; have f6 := Go.Joins.unfrozen_of_block S2.out.h6 0)
            | (go_at_call 70; with_reducible refine (NP.out _ S2.out.bu).mono ?_; rintro e w2 ⟨rfl, b2⟩; have FFK := Lib.hid (FK.out w2); have FFM := Lib.hid (FM.out w2); replace S2 := Lib.hid (S2.out.kept b2); clear b2 c3 c8 c6 f6; have c3 := S2.out.c3; have c8 := S2.out.c8; have c6 := S2.out.c6; have f6 := Go.Joins.unfrozen_of_block S2.out.h6 0)
            | (go_at_call 71; refine (KR.out _).mono ?_; rintro e w2 ⟨rfl, rfl⟩)
            | (have FF' := FF.out; clear FF; (with_reducible apply list_gfield); exact rfl; exact rfl; exact rfl; (with_reducible exact FF'); simp only [Act.put, List.setIfInBounds_toArray, List.set_cons_succ, List.set_cons_zero]; clear FF')
            | (have FF' := FFK.out; clear FFK; (with_reducible apply list_gfield); exact rfl; exact rfl; exact rfl; (with_reducible exact FF'); simp only [Act.put, List.setIfInBounds_toArray, List.set_cons_succ, List.set_cons_zero]; clear FF')
            | (have FF' := FFM.out; clear FFM; (with_reducible apply list_gfield); exact rfl; exact rfl; exact rfl; (with_reducible exact FF'); simp only [Act.put, List.setIfInBounds_toArray, List.set_cons_succ, List.set_cons_zero]; clear FF')
            | fail)
          have D := S2.out.done
          obtain ⟨w7, ew7⟩ : ∃ q, q = w2.setCell ⟨w.heap.size + 1, 0, none⟩ (.slice av ms.length cv) := ⟨_, rfl⟩
          rw [← ew7] at D ⊢
          obtain ⟨zc, D1, D2⟩ := D
          exact bodyPost_ret (v := .tuple #[.agg #[.slice av ms.length cv], .int .i64 3]) (by simp only [results, Try.results15]; simp [go_sem, zc]) rfl ⟨_, ms, HMS.out, rfl, D1, D2, HKCS.out⟩
  · have hP : ikPre ns z y a3 = 1 := by unfold ikPre; rw [if_neg hb]
    obtain ⟨e1, e2⟩ := ik_ref hP (by decide)
    rw [e1, e2]
    unfold rmB at hb
    clear hP e1 e2
    generalize treeB ns = t at *
    generalize nIn ns.length z = r1 at *
    generalize nIn ns.length y = r2 at *
    cases t
    case' true => cases r1
    case' true.true => cases r2
    case true.true.true => exact absurd rfl hb
    all_goals
      clear hb
      go_enter Try.func15, Try.ntmps15
      go_wp2_with (first
        | (rw [← EU.out])
        | (go_at_call 68; refine (sl10copyK _ cap ns u HZ.out hl).mono ?_; rintro e w1 ⟨v, ms, hms, rfl, ho, b1, hkcs⟩; have HKCS := Lib.hid hkcs; clear hkcs; obtain ⟨av, cv, rfl⟩ := own_form ho.1; clear c0; obtain ⟨v1, ev1⟩ : ∃ v1, v1 = w1.alloc (.cells #[.slice av ms.length cv] 26) := ⟨_, rfl⟩; have S1 := Lib.hid (KEY.out w1 v1 _ ms ho b1 ev1); have EV1 := Lib.hid ev1; clear ev1 b1 ho; have c3 := S1.out.c3; have HMS := Lib.hid hms; clear hms)
        | (rw [← EV1.out])
        | (go_at_call 18; refine (KT.out _ (HZ.out.below S1.out.bu)).mono ?_; rintro e w2 ⟨rfl, b2⟩; have S2 := Lib.hid (S1.out.kept b2); clear b2 c3; have c3 := S2.out.c3; have c8 := S2.out.c8; have c6 := S2.out.c6; have f6 := Go.Joins.unfrozen_of_block S2.out.h6 0)
        | (go_at_call 69; (first | with_reducible refine (KIz.out _).mono ?_ | with_reducible refine (KIy.out _).mono ?_); rintro e w2 ⟨rfl, b2⟩; replace S2 := Lib.hid (S2.out.kept b2); clear b2 c3 c8 c6 f6; have c3 := S2.out.c3; have c8 := S2.out.c8; have c6 := S2.out.c6; have f6 := Go.Joins.unfrozen_of_block S2.out.h6 0)
        | fail)
      have D := S2.out.done
      obtain ⟨w7, ew7⟩ : ∃ q, q = w2.setCell ⟨w.heap.size + 1, 0, none⟩ (.slice av ms.length cv) := ⟨_, rfl⟩
      rw [← ew7] at D ⊢
      obtain ⟨zc, D1, D2⟩ := D
      exact bodyPost_ret (v := .tuple #[.agg #[.slice av ms.length cv], .int .i64 1]) (by simp only [results, Try.results15]; simp [go_sem, zc]) rfl ⟨_, ms, HMS.out, rfl, D1, D2, HKCS.out⟩
theorem sinsertkid (a : Option Addr) (cap : Nat) (ns : List PN) (z y a3 : Int) (w : World) (hz : Nds w a ns) (hl : szS ns ≤ 1048576) (hz0 : I64 z) (hy0 : I64 y) (ha0 : I64 a3) (hcp : KCap w a ns) :
    Calls Try.prog 15 #[.agg #[.slice a ns.length cap], .int .i64 z, .int .i64 y, .int .i64 a3] w (ChPost (ikN ns z y a3) (ikC ns z y a3) w) :=
  (sinsertkidK a cap ns z y a3 w hz hl hz0 hy0 ha0 hcp).mono fun e w' h => h.ch e w'
end Go.Proofs.Ytckpjldenkjddaa
end
