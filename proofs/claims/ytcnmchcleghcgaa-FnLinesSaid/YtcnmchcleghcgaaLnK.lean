/-
  The laws' helpers on lists of ints: eqIntSS at equal lists; markIntSS and heldIntSS on lines that are parts of one row. Conditions: at most 1048576 ints.
-/
import Derived.Test.YtcnmchcleghcgaaLnI
import Derived.Test.YtcnmchcleghcgaaIntS
import Derived.Test.YtcnmchcleghcgaaRowI
import Derived.BigQuiet
import Derived.Lib.QuietBelow
namespace Go.Proofs.Ytcnmchcleghcgaa
open Go.ChangeShapes Go.WideShapes Go.ChangeAt Go.RowKit
set_option linter.unusedVariables false
set_option linter.unusedSimpArgs false
set_option maxRecDepth 8000

/-- Segments in a row, from s up to n. -/
def Chain : Nat → List (Nat × Nat) → Nat → Prop
  | s, [], n => s = n
  | s, p :: ps, n => p.1 = s ∧ s < p.2 ∧ Chain p.2 ps n
theorem chain_le : ∀ {ps : List (Nat × Nat)} {s n : Nat}, Chain s ps n → s ≤ n
  | [], _, _, h => Nat.le_of_eq h
  | p :: ps, s, n, h => by have := chain_le h.2.2; have := h.2.1; omega
theorem chain_snoc : ∀ {ps : List (Nat × Nat)} {s t u : Nat}, Chain s ps t → t < u → Chain s (ps ++ [(t, u)]) u
  | [], s, t, u, h, hu => by have : s = t := h; subst this; exact ⟨rfl, hu, rfl⟩
  | p :: ps, s, t, u, h, hu => ⟨h.1, h.2.1, chain_snoc h.2.2 hu⟩
theorem chain_last : ∀ {d : List (Nat × Nat)} {p : Nat × Nat} {s t : Nat}, Chain s (d ++ [p]) t → Chain s d p.1 ∧ p.2 = t ∧ p.1 < p.2
  | [], p, s, t, h => by obtain ⟨h1, h2, h3⟩ := h; exact ⟨h1.symm, h3, by omega⟩
  | q :: d, p, s, t, h => by
    obtain ⟨h1, h2, h3⟩ := h
    have := chain_last h3
    exact ⟨⟨h1, h2, this.1⟩, this.2⟩
theorem lnK_chain {xs : List It} {gap room : Int} {wraps : Bool} : ∀ i : Nat, Chain 0 (lnK xs gap room wraps i) i
  | 0 => rfl
  | i + 1 => by
    have ih := lnK_chain (xs := xs) (gap := gap) (room := room) (wraps := wraps) i
    by_cases h0 : i = 0
    · subst h0; exact ⟨rfl, by decide, rfl⟩
    · obtain ⟨p, hp, h2, h1⟩ := (lnK_ok (xs := xs) (gap := gap) (room := room) (wraps := wraps) i).some (by omega)
      rw [lnK_succ hp]
      split
      · have hs := getLast_split hp
        rw [hs] at ih
        have := chain_last ih
        exact chain_snoc this.1 (by omega)
      · exact chain_snoc ih (by omega)
theorem mksI_snoc (k m : Nat) : mksI k (m + 1) = mksI k m ++ [(k : Int) + m] := by simp [mksI, List.range_succ]
theorem mksI_add (k a b : Nat) : mksI k a ++ mksI (k + a) b = mksI k (a + b) := by
  induction b with
  | zero => simp [mksI]
  | succ b ih =>
    rw [mksI_snoc, ← List.append_assoc, ih, show a + (b + 1) = a + b + 1 by omega, mksI_snoc]
    congr 2
    simp; omega
theorem part_set {zs : List Int} {s m k : Nat} (h : s + m < zs.length) : (zs.take s ++ (mksI k m ++ zs.drop (s + m))).set (s + m) ((k : Int) + m) = zs.take s ++ (mksI k (m + 1) ++ zs.drop (s + (m + 1))) := by
  have hl : (zs.take s).length = s := by rw [List.length_take]; omega
  rw [List.set_append_right _ _ (by omega), hl, show s + m - s = m by omega]
  congr 1
  have := mksI_set (k := k) (m := m) (xs := zs.drop s) (by rw [List.length_drop]; omega)
  rw [List.drop_drop, List.drop_drop] at this
  exact this
set_option maxHeartbeats 1000000 in
/-- markIntS on a part of a row. -/
theorem markPart (g n s t c base k : Nat) (K : Int) (zs : List Int) (w : World) (hn : n ≤ 1048576) (hk2 : k ≤ 4294967296) (hK : K = k) (hs : s ≤ t) (ht : t ≤ n) (hz : zs.length = n) (h : RowI base (.slice (some ⟨g, 0, none⟩) n n) zs w) :
    Calls Try.prog 35 #[.slice (some ⟨g, s, none⟩) (t - s) c, .int .i64 K] w fun e w' => e = .returned (.int .i64 (K + (t - s : Nat))) ∧ RowI base (.slice (some ⟨g, 0, none⟩) n n) (zs.take s ++ (mksI k (t - s) ++ zs.drop t)) w' ∧ w.grownBy w' (some g) := by
  subst hK
  have h0 : RowI base (.slice (some ⟨g, 0, none⟩) n n) (zs.take s ++ (mksI k 0 ++ zs.drop (s + 0))) w := by simpa [mksI] using h
  have hfin : zs.take s ++ (mksI k (t - s) ++ zs.drop (s + (t - s))) = zs.take s ++ (mksI k (t - s) ++ zs.drop t) := by rw [show s + (t - s) = t by omega]
  have hpart := fun m (hm : m < t - s) => part_set (zs := zs) (s := s) (m := m) (k := k) (by omega)
  have hlen : ∀ m, m ≤ t - s → (zs.take s ++ (mksI k m ++ zs.drop (s + m))).length = n := fun m hm => by
    rw [List.length_append, List.length_append, List.length_take, List.length_drop, mksI_len]; omega
  have HF := Lib.hid hfin
  have HP := Lib.hid hpart
  have HLEN := Lib.hid hlen
  obtain ⟨d, ed⟩ : ∃ q, q = t - s := ⟨_, rfl⟩
  rw [← ed] at HF HP HLEN ⊢
  have hd : s + d ≤ n := by omega
  clear hfin hpart hlen h hz ed
  go_enter Try.func35, Try.ntmps35
  go_wp2
  go_loopw [1, 5] (fun q i wr => ∃ m : Nat, m ≤ d ∧ i = .int .i64 m ∧ q = .int .i64 ((k : Int) + m) ∧ RowI base (.slice (some ⟨g, 0, none⟩) n n) (zs.take s ++ (mksI k m ++ zs.drop (s + m))) wr ∧ w.grownBy wr (some g)) (fun _ i _ => d - (intOf i).toNat)
  case atStart => exact ⟨0, Nat.zero_le _, rfl, by simp, h0, World.grownBy.refl _ _⟩
  case round =>
    obtain ⟨m, hm, rfl, rfl, ho, hg⟩ := hrel
    by_cases hlt : m < d
    · have hlo : (0 : Int) ≤ (m : Int) := Int.natCast_nonneg _
      have hhi : (m : Int) < (d : Int) := by omega
      obtain ⟨⟨q2, c2⟩, f2, hp⟩ := ho.put (k := s + m) (HLEN.out m hm) (by omega) ((k : Int) + m)
      rw [HP.out m hlt] at hp
      have HR := Lib.hid hp
      have HG := Lib.hid (show w.grownBy (wr.setCell ⟨g, s + m, none⟩ (.int .i64 ((k : Int) + m))) (some g) from ⟨hg.os, hg.tape, hg.output, by simpa [World.setCell] using hg.size, fun i hi hne => (Below.heap_setCell wr ⟨g, s + m, none⟩ _ i (by rintro rfl; exact hne rfl)).trans (hg.block i hi hne)⟩)
      clear ho hg hp h0
      go_wp2
      go_roundw
      case rel => exact ⟨m + 1, by omega, by go_num, by go_num, HR.out, HG.out⟩
      case measure => simp [intOf]; omega
    · obtain rfl : m = d := by omega
      rw [HF.out] at ho
      clear h0
      go_wp2
      go_ret
      exact ⟨rfl, ho, hg⟩
set_option maxHeartbeats 1000000 in
theorem heldPart (g n s t c base k : Nat) (K : Int) (w : World) (hn : n ≤ 1048576) (hk2 : k ≤ 4294967296) (hK : K = (k : Int) + s) (hs : s ≤ t) (ht : t ≤ n) (h : RowI base (.slice (some ⟨g, 0, none⟩) n n) (mksI k n) w) :
    Calls Try.prog 36 #[.slice (some ⟨g, s, none⟩) (t - s) c, .int .i64 K] w fun e w' => e = .returned (.int .i64 (K + (t - s : Nat))) ∧ w' = w := by
  subst hK
  have hcell : ∀ m, m < t - s → w.cell? ⟨g, s + m, none⟩ = some (.int .i64 ((k : Int) + s + m)) := fun m hm => by
    rw [h.cell (k := s + m) (mksI_len k n) (by omega), mksI_at k (by omega)]
    simp; omega
  have HC := Lib.hid hcell
  obtain ⟨d, ed⟩ : ∃ q, q = t - s := ⟨_, rfl⟩
  rw [← ed] at HC ⊢
  have hd : s + d ≤ n := by omega
  clear hcell h ed
  go_enter Try.func36, Try.ntmps36
  go_wp2
  go_loopw [1, 5] (fun q i wr => ∃ m : Nat, m ≤ d ∧ i = .int .i64 m ∧ q = .int .i64 ((k : Int) + s + m) ∧ wr = w) (fun _ i _ => d - (intOf i).toNat)
  case atStart => exact ⟨0, Nat.zero_le _, rfl, by simp, rfl⟩
  case round =>
    obtain ⟨m, hm, rfl, rfl, rfl⟩ := hrel
    by_cases hlt : m < d
    · have hlo : (0 : Int) ≤ (m : Int) := Int.natCast_nonneg _
      have hhi : (m : Int) < (d : Int) := by omega
      have c1 := HC.out m hlt
      go_wp2
      go_roundw
      case rel => exact ⟨m + 1, by omega, by go_num, by go_num, (by first | trivial | rfl)⟩
      case measure => simp [intOf]; omega
    · obtain rfl : m = d := by omega
      go_wp2
      go_ret
      exact ⟨rfl, rfl⟩
/-- The lines once they are marked. -/
structure LnQ (lo : Nat) (v : Value) (g n k : Nat) (ps : List (Nat × Nat)) (w : World) : Prop where
  out : w.ownsRow lo 25 1 v ps.length (ps.map (hdr g))
  idx : RowI lo (.slice (some ⟨g, 0, none⟩) n n) (mksI k n) w
  ne : v.ownBlock = none ∨ v.ownBlock ≠ some g
theorem LnQ.below {lo g n k : Nat} {v : Value} {ps : List (Nat × Nat)} {w w' : World} (h : LnQ lo v g n k ps w) (hb : Below w.heap.size w w') : LnQ lo v g n k ps w' :=
  ⟨World.ownsRow.kept h.out ⟨hb.os, hb.tape, hb.output, hb.size, fun k hk _ => hb.block k hk⟩ (by cases v.ownBlock <;> simp : v.ownBlock = none ∨ v.ownBlock ≠ none), h.idx.below hb, h.ne⟩
theorem mk_take (k e : Nat) (X : List Int) : (mksI k e ++ X).take e = mksI k e := by
  rw [List.take_append_of_le_length (by rw [mksI_len]; omega), List.take_of_length_le (by rw [mksI_len]; omega)]
theorem mk_next {k e t n : Nat} (h : e ≤ t) : (mksI k e ++ (idxL n).drop e).take e ++ (mksI (k + e) (t - e) ++ (mksI k e ++ (idxL n).drop e).drop t) = mksI k t ++ (idxL n).drop t := by
  rw [mk_take, ← List.append_assoc, mksI_add, show e + (t - e) = t by omega, List.drop_append, mksI_len, List.drop_of_length_le (by rw [mksI_len]; exact h), List.nil_append, List.drop_drop, show e + (t - e) = t by omega]
theorem hdr_cell {lo : Nat} {v : Value} {g : Nat} {ps : List (Nat × Nat)} {w : World} (h : w.ownsRow lo 25 1 v ps.length (ps.map (hdr g))) : ∃ a cap, v = .slice a ps.length cap ∧ ∀ j p, ps[j]? = some p → ∃ gv, a = some ⟨gv, 0, none⟩ ∧ v.ownBlock = some gv ∧ w.cell? ⟨gv, j, none⟩ = some (.slice (some ⟨g, p.1, none⟩) (p.2 - p.1) (p.2 - p.1)) := by
  rcases h.2 with ⟨h1, h2⟩ | ⟨gv, cap, cur, h1, _⟩
  · have h2' : ps.length = 0 := h2
    exact ⟨none, 0, by rw [h1, h2'], fun j p hj => by rw [List.length_eq_zero_iff.1 h2'] at hj; cases hj⟩
  · subst h1
    refine ⟨_, cap, rfl, fun j p hj => ⟨gv, rfl, rfl, ?_⟩⟩
    have hlt := (List.getElem?_eq_some_iff.1 hj).1
    rw [World.ownsRow.cellAt h j (by omega), List.getElem?_map, hj]
    rfl
theorem chain_drop {ps : List (Nat × Nat)} {e j n : Nat} (h : Chain e (ps.drop j) n) (hj : j < ps.length) : ∃ p, ps[j]? = some p ∧ p.1 = e ∧ e < p.2 ∧ Chain p.2 (ps.drop (j + 1)) n := by
  rw [List.drop_eq_getElem_cons hj] at h
  exact ⟨ps[j], List.getElem?_eq_getElem hj, h.1, h.2.1, h.2.2⟩
end Go.Proofs.Ytcnmchcleghcgaa
