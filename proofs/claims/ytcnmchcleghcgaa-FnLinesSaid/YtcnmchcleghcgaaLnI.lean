/-
  The lines of impl.LinesOf: parts of one row of indexes, in an outer row of the call's own. Conditions: at most 1048576 items.
-/
import Derived.Test.YtcnmchcleghcgaaLnC
import Derived.Test.YtcnmchcleghcgaaSsA
import Derived.Maps.AppendAt
namespace Go.Proofs.Ytcnmchcleghcgaa
open Go.ChangeShapes Go.WideShapes Go.ChangeAt Go.RowKit
set_option linter.unusedVariables false
set_option linter.unusedSimpArgs false
set_option maxRecDepth 20000

def sndL : Go.Code → Go.Code
  | .seq _ b => b
  | c => c
def restL : Nat → Go.Code → Go.Code
  | 0, c => c
  | n + 1, c => restL n (sndL c)
theorem wp_restL {P : Program} {n : Nat} {fn : Func} {c : Go.Code} {Q : Exit → Act → World → Prop} {a : Act} {w : World} (hb : fn.body = some c) (h : Go.Code.wp P (restL n c) Q a w) : Go.Code.wp P (restL n (fn.body.getD .skip)) Q a w := by
  rw [hb]; exact h
/-- A line as a part of the row of indexes. -/
def hdr (g : Nat) (p : Nat × Nat) : Value := .slice (some ⟨g, p.1, none⟩) (p.2 - p.1) (p.2 - p.1)
def idxL (n : Nat) : List Int := (List.range n).map Int.ofNat
theorem idxL_len (n : Nat) : (idxL n).length = n := by simp [idxL]
theorem idxL_at {n k : Nat} (h : k < n) : (idxL n).getD k 0 = (k : Int) := by simp [idxL, List.getD, h]
theorem idxL_all {n : Nat} (h : n ≤ 1048576) : AllI (idxL n) := by
  intro z hz
  obtain ⟨i, hi, rfl⟩ := List.mem_map.1 hz
  have := List.mem_range.1 hi
  simp only [Int.ofNat_eq_natCast]
  omega
/-- The lines as the program lays them: an outer row, and the row of indexes. -/
structure LnP (lo : Nat) (v : Value) (g n : Nat) (ps : List (Nat × Nat)) (w : World) : Prop where
  out : w.ownsRow lo 25 1 v ps.length (ps.map (hdr g))
  idx : RowI lo (.slice (some ⟨g, 0, none⟩) n n) (idxL n) w
  ne : v.ownBlock = none ∨ v.ownBlock ≠ some g
theorem part_ints {lo g n s t : Nat} {w : World} (h : RowI lo (.slice (some ⟨g, 0, none⟩) n n) (idxL n) w) (hs : s < t) (ht : t ≤ n) (hn : n ≤ 1048576) : Ints w (some ⟨g, s, none⟩) (lineI (s, t)).length (lineI (s, t)) := by
  refine ⟨rfl, fun z hz => ?_, Or.inr ⟨g, s, rfl, (World.ownsRow.lt h g rfl).2, fun j hj => ?_⟩⟩
  · have := lineI_all (p := (s, t)) (by show t ≤ 1048576; omega) z hz
    exact this
  · rw [lineI_len] at hj
    have hj' : j < t - s := hj
    have hc := h.cell (k := s + j) (idxL_len n) (by omega)
    rw [idxL_at (by omega)] at hc
    rw [hc, lineI_at hj']
theorem LnP.read {lo g n : Nat} {v : Value} {ps : List (Nat × Nat)} {w : World} (h : LnP lo v g n ps w) (hp : ∀ p ∈ ps, p.1 < p.2 ∧ p.2 ≤ n) (hn : n ≤ 1048576) : Ss1 lo v (ps.map lineI) w := by
  refine ⟨fun l hl => ?_, ps.map (hdr g), by rw [List.length_map]; exact h.out, by simp, fun k l hk => ?_⟩
  · obtain ⟨p, hpm, rfl⟩ := List.mem_map.1 hl
    exact lineI_all (by have := hp p hpm; omega)
  · rw [List.getElem?_map] at hk
    obtain ⟨p, e1, rfl⟩ := Option.map_eq_some_iff.1 hk
    have hpm := hp p (List.mem_of_getElem? e1)
    refine ⟨some ⟨g, p.1, none⟩, p.2 - p.1, ?_, part_ints h.idx hpm.1 hpm.2 hn, fun b off e => ?_⟩
    · rw [List.getElem?_map, e1, lineI_len]; rfl
    · simp at e
      obtain ⟨rfl, _⟩ := e
      refine ⟨(World.ownsRow.lt h.idx _ rfl).1, (World.ownsRow.lt h.idx _ rfl).2, fun e2 => ?_⟩
      rcases h.ne with h0 | h0
      · rw [h0] at e2; cases e2
      · exact h0 e2
theorem LnP.below {lo g n : Nat} {v : Value} {ps : List (Nat × Nat)} {w w' : World} (h : LnP lo v g n ps w) (hb : Below w.heap.size w w') : LnP lo v g n ps w' :=
  ⟨World.ownsRow.kept h.out ⟨hb.os, hb.tape, hb.output, hb.size, fun k hk _ => hb.block k hk⟩ (by cases v.ownBlock <;> simp : v.ownBlock = none ∨ v.ownBlock ≠ none), h.idx.below hb, h.ne⟩
theorem apn_ne {g n : Nat} {v : Value} (h : v.ownBlock = none ∨ v.ownBlock ≠ some g) (e2 : (Value.slice (some ⟨g, 0, none⟩) n n).ownBlock = v.ownBlock) : False := by
  have e3 : some g = v.ownBlock := e2
  rcases h with e | e
  · rw [e] at e3; cases e3
  · exact e e3.symm
theorem LnP.push {lo g n s t : Nat} {v v' : Value} {ps : List (Nat × Nat)} {w w' : World} (h : LnP lo v g n ps w) (ho : w'.ownsRow lo 25 1 v' (ps.length + 1) (ps.map (hdr g) ++ [hdr g (s, t)])) (hg : w.grownBy w' v.ownBlock) (hloc : v'.ownBlock = v.ownBlock ∨ v'.ownBlock = some w.heap.size) :
    LnP lo v' g n (ps ++ [(s, t)]) w' := by
  have hlt : g < w.heap.size := (World.ownsRow.lt h.idx g rfl).2
  refine ⟨by rw [List.length_append, List.map_append]; exact ho, h.idx.kept hg (Or.inr fun e2 => (apn_ne h.ne e2)), ?_⟩
  rcases hloc with e | e
  · rw [e]; exact h.ne
  · exact Or.inr (by rw [e]; intro e2; injection e2 with e2; omega)
def LnPost (ps : List (Nat × Nat)) (n : Nat) (w : World) (e : Ending) (w' : World) : Prop := ∃ v g, e = .returned v ∧ LnP w.heap.size v g n ps w' ∧ Below w.heap.size w w'
/-- Ahead of a round: the lines so far are closed. -/
def LnCl (xs : List It) (gap room : Int) (wraps : Bool) (k : Nat) : Prop := k = xs.length ∨ k = 0 ∨ ∃ p, (lnK xs gap room wraps k).getLast? = some p ∧ fits xs gap room wraps p.1 (k + 1) = false
theorem ln_whole {xs : List It} {gap room : Int} {wraps : Bool} {k : Nat} (hb : brk xs room wraps = false) (hk : k < xs.length) (hc : LnCl xs gap room wraps k) : lnK xs gap room wraps xs.length = lnK xs gap room wraps k ++ [(k, xs.length)] := by
  refine lnK_more ?_ xs.length hk (fun u h1 h2 => by unfold fits; rw [hb]; rfl)
  rcases hc with h | h | h
  · omega
  · exact Or.inl h
  · exact Or.inr h
theorem ln_part {xs : List It} {gap room : Int} {wraps : Bool} {k c : Nat} (hk : k < xs.length) (hc : LnCl xs gap room wraps k) (hb : brk xs room wraps = true) (h1 : 1 ≤ c) (h2 : c ≤ (xs.drop k).length) (hf : ∀ u, 1 < u → u ≤ c → tkO (xs.drop k) gap u ≤ room) (he : c = (xs.drop k).length ∨ ¬ tkO (xs.drop k) gap (c + 1) ≤ room) :
    lnK xs gap room wraps (k + c) = lnK xs gap room wraps k ++ [(k, k + c)] ∧ LnCl xs gap room wraps (k + c) ∧ k + c ≤ xs.length := by
  rw [List.length_drop] at h2 he
  have hl : lnK xs gap room wraps (k + c) = lnK xs gap room wraps k ++ [(k, k + c)] := by
    refine lnK_more ?_ (k + c) (by omega) (fun u q1 q2 => ?_)
    · rcases hc with h | h | h
      · omega
      · exact Or.inl h
      · exact Or.inr h
    · have := hf (u - k) (by omega) (by omega)
      rw [tk_seg, show k + (u - k) = u by omega] at this
      unfold fits
      rw [decide_eq_true this, Bool.or_true]
  refine ⟨hl, ?_, by omega⟩
  rcases he with he | he
  · exact Or.inl (by omega)
  · refine Or.inr (Or.inr ⟨(k, k + c), by rw [hl]; simp, ?_⟩)
    rw [tk_seg] at he
    unfold fits
    rw [hb]
    show (false || decide (segO xs gap k (k + c + 1) ≤ room)) = false
    rw [show k + c + 1 = k + (c + 1) by omega, decide_eq_false he]
    rfl
def LnoRel (xs : List It) (gap room : Int) (wraps : Bool) (lo g : Nat) (w : World) (v i : Value) (wr : World) : Prop :=
  ∃ k : Nat, k ≤ xs.length ∧ i = .int .i64 k ∧ LnCl xs gap room wraps k ∧ LnP lo v g xs.length (lnK xs gap room wraps k) wr ∧ Below lo w wr
def LniRel (n lo g : Nat) (w : World) (i : Value) (wr : World) : Prop :=
  ∃ k : Nat, k ≤ n ∧ i = .int .i64 k ∧ RowI lo (.slice (some ⟨g, 0, none⟩) n n) ((idxL n).take k ++ (List.replicate n 0).drop k) wr ∧ Below lo w wr
set_option maxHeartbeats 4000000 in
theorem lines2 (a : Option Addr) (cap : Nat) (xs : List It) (gap room : Int) (wraps bq : Bool) (w0 w : World) (hz : Its w0 a xs) (hl : xs.length ≤ 1048576) (hcap : xs.length ≤ cap) (hbq : bq = brk xs room wraps) (hb0 : Below w0.heap.size w0 w) (u10 u11 u12 u13 u14 u15 u16 u17 u18 u19 u20 u21 u22 u23 u24 u25 u26 u27 u28 u29 u30 u31 u32 u33 u34 u35 u36 u37 u38 u39 u40 u41 u42 u43 u44 u45 u46 u47 u48 u49 u50 u51 u52 u53 u54 u55 u56 u57 u58 u59 u60 u61 : Value) :
    Go.Code.wp Try.prog (restL 2 (Try.f38.body.getD .skip)) (bodyPost Try.prog Try.f38 (LnPost (lnK xs gap room wraps xs.length) xs.length w0)) { tmps := #[.slice a xs.length cap, .int .i64 gap, .int .i64 room, .bool wraps, undef, undef, undef, undef, .slice none 0 0, .bool bq, u10, u11, u12, u13, u14, u15, u16, u17, u18, u19, u20, u21, u22, u23, u24, u25, u26, u27, u28, u29, u30, u31, u32, u33, u34, u35, u36, u37, u38, u39, u40, u41, u42, u43, u44, u45, u46, u47, u48, u49, u50, u51, u52, u53, u54, u55, u56, u57, u58, u59, u60, u61], defers := [] } w := by
  obtain ⟨i0, hi, hz0, hz1, hz2⟩ := info_parts info_intP
  obtain ⟨is, his, hs0, hs1, hs2⟩ := info_parts info_ints
  have HBQ := Lib.hid hbq
  clear hbq
  refine wp_restL rfl ?_
  simp only [restL, sndL]
  go_wp2_with (first
    | (at_make; refine wpList_make_full _ rfl _ _ 25 rfl w.heap.size 3 i0 (.int .i64 0) 1 Try.underlying25 hi hz0 hz1 .i64 .i64 _ _ xs.length rfl rfl rfl rfl (by rw [hz2]; omega) (by unfold maxLen; omega) (Nat.le_refl _) ?_))
  intro v0 hown0 hgrow0
  have hv0 : RowI w.heap.size (.slice (some ⟨w.heap.size, 0, none⟩) xs.length xs.length) ((idxL xs.length).take 0 ++ (List.replicate xs.length 0).drop 0) v0 := by
    unfold RowI
    rw [toList_madeCells_one] at hown0
    simpa using hown0
  have hb1 : Below w.heap.size w v0 := (Below.refl _ _).grown hgrow0 (Nat.le_refl _) (fun g hg => by cases hg)
  obtain ⟨gi, egi⟩ : ∃ q, q = w.heap.size := ⟨_, rfl⟩
  have hlo : w0.heap.size ≤ gi := by have := hb0.size; omega
  rw [← egi] at hv0 ⊢
  have R0 := Lib.hid (lowI hv0 hlo)
  have HB0 := Lib.hid (hb0.trans (hb1.mono hb0.size))
  have HZ := Lib.hid hz
  clear hz hown0 hgrow0 hv0 hb1 hb0 egi
  go_wp2
  go_loopw [29] (LniRel xs.length w0.heap.size gi w0) (fun i _ => xs.length - (intOf i).toNat)
  case atStart => exact ⟨0, Nat.zero_le _, rfl, R0.out, HB0.out⟩
  case round =>
    clear R0 HB0
    obtain ⟨k, hk, rfl, ho, hb⟩ := hrel
    have hll : ((idxL xs.length).take k ++ (List.replicate xs.length (0 : Int)).drop k).length = xs.length := by rw [List.length_append, List.length_take, idxL_len]; simp; omega
    by_cases hlt : k < xs.length
    · have hlo2 : (0 : Int) ≤ (k : Int) := Int.natCast_nonneg _
      have hhi : (k : Int) < (xs.length : Int) := by omega
      have hset : ((idxL xs.length).take k ++ (List.replicate xs.length (0 : Int)).drop k).set k (k : Int) = (idxL xs.length).take (k + 1) ++ (List.replicate xs.length (0 : Int)).drop (k + 1) := by
        have := take_set (zs := idxL xs.length) (l := List.replicate xs.length (0 : Int)) (k := k) (by rw [idxL_len]; exact hlt) (by simpa using hlt)
        rw [idxL_at hlt] at this
        exact this
      obtain ⟨⟨q2, c2⟩, f2, hp⟩ := ho.put hll hlt (k : Int)
      rw [hset] at hp
      have HP := Lib.hid hp
      have HB := Lib.hid (bl_set hb (g := gi) k hlo (.int .i64 (k : Int)))
      clear hp ho hb hset hll
      go_wp2
      go_roundw
      case rel => exact ⟨k + 1, by omega, by go_num, HP.out, HB.out⟩
      case measure => simp [intOf]; omega
    · obtain rfl : k = xs.length := by omega
      rw [List.take_of_length_le (by rw [idxL_len]; omega), List.drop_of_length_le (by simp), List.append_nil] at ho
      have HIX := Lib.hid ho
      have HBX := Lib.hid hb
      have hlp : LnP w0.heap.size (.slice none 0 0) gi xs.length [] wr := ⟨World.ownsRow_nil _ _ _ _, ho, Or.inl rfl⟩
      have HLP := Lib.hid hlp
      have HZ2 := Lib.hid hb.size
      clear ho hb hlp hll
      have hcl0 : LnCl xs gap room wraps 0 := Or.inr (Or.inl rfl)
      have HCL0 := Lib.hid hcl0
      clear hcl0
      go_wp2_with (fail)
      go_loopw [12, 13] (LnoRel xs gap room wraps w0.heap.size gi w0) (fun _ i _ => xs.length - (intOf i).toNat)
      case atStart => exact ⟨0, Nat.zero_le _, rfl, HCL0.out, HLP.out, HBX.out⟩
      case round =>
        clear HCL0 HLP HBX HIX HZ2
        obtain ⟨k, hk, rfl, hcl, hlp, hb⟩ := hrel
        have HCL := Lib.hid hcl
        have HLP := Lib.hid hlp
        have HB := Lib.hid hb
        by_cases hlt : k < xs.length
        · have hlo2 : (0 : Int) ≤ (k : Int) := Int.natCast_nonneg _
          have hhi : (k : Int) < (xs.length : Int) := by omega
          cases bq with
          | false =>
            have HEQ := Lib.hid (ln_whole (gap := gap) HBQ.out.symm hlt hcl)
            have hlen : (lnK xs gap room wraps k).length ≤ k := lnK_len k
            have hsz := hb.size
            clear hcl hlp hb HCL HBQ
            go_wp2_with (at_builtin; refine wpList_append_own_at _ rfl _ _ 55 rfl w0.heap.size 25 is (.slice none 0 0) 1 24 Try.underlying55 his hs0 hs1 hs2 rfl (by decide) _ _ _ rfl (World.ownsRow.alloc HLP.out.out _) ⟨wr.heap.size, 0, none⟩ 1 1 [hdr gi (k, xs.length)] rfl rfl (one_intP _ _ _) ?c2a ?c3a ?c4a ?c5a ?_)
            case c2a => intro u hu; simp at hu; subst hu; rfl
            case c3a => unfold maxLen; omega
            case c4a => omega
            case c5a => simp; omega
            intro v' w3 hown3 hgr _ hloc
            have LPA : LnP w0.heap.size u12 gi xs.length (lnK xs gap room wraps k) (wr.alloc (.cells #[hdr gi (k, xs.length)] 25)) := HLP.out.below ((Below.refl _ _).alloc (Nat.le_refl _) _)
            have L3 := Lib.hid (show LnP w0.heap.size v' gi xs.length (lnK xs gap room wraps (xs.length)) w3 by rw [HEQ.out]; exact LPA.push hown3 hgr (by simpa using hloc))
            have B3 := Lib.hid ((HB.out.alloc HB.out.size (.cells #[hdr gi (k, xs.length)] 25)).grown hgr (by simp; omega) (fun g hg => (World.ownsRow.lt LPA.out g hg).1))
            clear hown3 hgr LPA hloc
            go_wp2
            go_roundw
            case rel => exact ⟨xs.length, Nat.le_refl _, rfl, Or.inl rfl, L3.out, B3.out⟩
            case measure => simp [intOf]; omega
          | true =>
            obtain ⟨b, off, rfl⟩ : ∃ b off, a = some ⟨b, off, none⟩ := by
              rcases HZ.out.2 with h | ⟨b, off, h, _⟩
              · rw [h] at hlt; simp at hlt
              · exact ⟨b, off, h⟩
            have hkd : (xs.drop k).length = xs.length - k := List.length_drop
            have kc := icount b (off + k * 9) (cap - k) (xs.drop k) gap room wr ((HZ.out.below hb).drop k) (by omega) (by omega) (by omega)
            rw [hkd] at kc
            have HPART := Lib.hid (fun (c : Nat) => ln_part (gap := gap) (c := c) hlt hcl HBQ.out.symm)
            have hlen : (lnK xs gap room wraps k).length ≤ k := lnK_len k
            have KC := Lib.hid kc
            clear hcl hlp hb HCL kc HBQ
            go_wp2_with (fail)
            refine KC.out.mono ?_
            rintro e w1 ⟨c, rfl, hc1, hc2, hf, he, b1⟩
            obtain ⟨p1, p2, p3⟩ := HPART.out c hc1 hc2 hf (he.imp id Int.not_le.1)
            have HEQ := Lib.hid p1
            have HCL1 := Lib.hid p2
            have HLP1 := Lib.hid (HLP.out.below b1)
            have HB1 := Lib.hid (HB.out.trans (b1.mono HB.out.size))
            have hsz := HB1.out.size
            have HHD := Lib.hid (show hdr gi (k, k + c) = .slice (some ⟨gi, k, none⟩) c c by unfold hdr; show Value.slice _ (k + c - k) (k + c - k) = _; rw [Nat.add_sub_cancel_left])
            clear KC HPART HLP HB b1 p1 p2 hf he hc2
            (try dsimp only)
            go_wp2_with (at_builtin; refine wpList_append_own_at _ rfl _ _ 55 rfl w0.heap.size 25 is (.slice none 0 0) 1 24 Try.underlying55 his hs0 hs1 hs2 rfl (by decide) _ _ _ rfl (World.ownsRow.alloc HLP1.out.out _) ⟨w1.heap.size, 0, none⟩ 1 1 [.slice (some ⟨gi, k, none⟩) c c] rfl rfl (one_intP _ _ _) ?c2b ?c3b ?c4b ?c5b ?_)
            case c2b => intro u hu; simp at hu; subst hu; rfl
            case c3b => unfold maxLen; omega
            case c4b => omega
            case c5b => simp; omega
            intro v' w3 hown3 hgr _ hloc
            have LPA : LnP w0.heap.size u12 gi xs.length (lnK xs gap room wraps k) (w1.alloc (.cells #[.slice (some ⟨gi, k, none⟩) c c] 25)) := HLP1.out.below ((Below.refl _ _).alloc (Nat.le_refl _) _)
            have L3 := Lib.hid (show LnP w0.heap.size v' gi xs.length (lnK xs gap room wraps (k + c)) w3 by rw [HEQ.out]; exact LPA.push (by rw [HHD.out]; exact hown3) hgr (by simpa using hloc))
            have B3 := Lib.hid ((HB1.out.alloc HB1.out.size (.cells #[.slice (some ⟨gi, k, none⟩) c c] 25)).grown hgr (by simp; omega) (fun g hg => (World.ownsRow.lt LPA.out g hg).1))
            clear hown3 hgr LPA hloc
            go_wp2
            go_roundw
            case rel => exact ⟨k + c, p3, by go_num, HCL1.out, L3.out, B3.out⟩
            case measure => simp [intOf]; omega
        · obtain rfl : k = xs.length := by omega
          clear hb hlp
          go_wp2
          go_ret
          exact ⟨_, gi, rfl, HLP.out, HB.out⟩
set_option maxHeartbeats 4000000 in
theorem ilines (a : Option Addr) (cap : Nat) (xs : List It) (gap room : Int) (wraps : Bool) (w : World) (hz : Its w a xs) (hl : xs.length ≤ 1048576) (hcap : xs.length ≤ cap) :
    Calls Try.prog 38 #[.slice a xs.length cap, .int .i64 gap, .int .i64 room, .bool wraps] w (LnPost (lnK xs gap room wraps xs.length) xs.length w) := by
  go_enter Try.func38, Try.ntmps38
  have HZ := Lib.hid hz
  clear hz
  cases wraps with
  | false =>
    have HBK := Lib.hid (show false = brk xs room false from rfl)
    iterate 36 go_step
    repeat (first | (exact lines2 a cap xs gap room false false w w HZ.out hl hcap HBK.out (Below.refl _ _) _ _ _ _ _ _ _ _ _ _ _ _ _ _ _ _ _ _ _ _ _ _ _ _ _ _ _ _ _ _ _ _ _ _ _ _ _ _ _ _ _ _ _ _ _ _ _ _ _ _ _ _) | go_step)
  | true =>
    by_cases hr : room < 0
    · have HBK := Lib.hid (show false = brk xs room true by unfold brk; rw [decide_eq_false (by omega : ¬ 0 ≤ room)]; rfl)
      iterate 36 go_step
      repeat (first | (exact lines2 a cap xs gap room true false w w HZ.out hl hcap HBK.out (Below.refl _ _) _ _ _ _ _ _ _ _ _ _ _ _ _ _ _ _ _ _ _ _ _ _ _ _ _ _ _ _ _ _ _ _ _ _ _ _ _ _ _ _ _ _ _ _ _ _ _ _ _ _ _ _) | go_step)
    · have kk := iitsok a cap xs w HZ.out (by omega)
      have HBK := Lib.hid (show itsOk xs = brk xs room true by unfold brk; rw [decide_eq_true (by omega : 0 ≤ room)]; rfl)
      generalize itsOk xs = ok at *
      go_wp2_with (fail)
      refine kk.mono ?_
      rintro e w1 ⟨rfl, b1⟩
      have HB1 := Lib.hid b1
      clear kk b1
      (try dsimp only)
      repeat (first | (exact lines2 a cap xs gap room true ok w w1 HZ.out hl hcap HBK.out HB1.out _ _ _ _ _ _ _ _ _ _ _ _ _ _ _ _ _ _ _ _ _ _ _ _ _ _ _ _ _ _ _ _ _ _ _ _ _ _ _ _ _ _ _ _ _ _ _ _ _ _ _ _) | go_step)
end Go.Proofs.Ytcnmchcleghcgaa
