import Derived.Test.YtiogjbdaaplhpaaZfAP
section
namespace Go.Proofs.Ytiogjbdaaplhpaa
open Go.ChangeShapes Go.WideShapes Go.ChangeAt Go.RowKit
set_option linter.unusedVariables false
set_option linter.unusedSimpArgs false
set_option maxRecDepth 8000

def hdS (f : Nat → Int) : Bool := bz (f 7)
def apS (f : Nat → Int) : Bool := bz (f 6)
/-- The role of a child: 0 in the flow, 1 apart, 2 hidden. -/
def rlZ (f : Nat → Int) : Int := if hdS f = true then 2 else if apS f = true then 1 else 0
def hidZ (ns : List PN) (z : Int) : Bool := hdS (ndAt ns z).sty
/-- z or a node above it, looked at f levels up, is hidden. -/
def goF (ns : List PN) : Nat → Int → Bool
  | 0, _ => false
  | f + 1, z => if z = 0 then false else if hidZ ns z = true then true else goF ns f (upZ ns z)
/-- The top of the nodes above z, looked at f levels up. -/
def rtF (ns : List PN) : Nat → Int → Int
  | 0, z => z
  | f + 1, z => if upZ ns z = 0 then z else rtF ns f (upZ ns z)
def goB (ns : List PN) (z : Int) : Bool := if (nIn ns.length z && treeB ns) = true then goF ns 4 z else true
def rtZ (ns : List PN) (z : Int) : Int := if (nIn ns.length z && treeB ns) = true then rtF ns 4 z else 0
theorem goF_zero (ns : List PN) : ∀ f, goF ns f 0 = false
  | 0 => rfl
  | f + 1 => by rw [goF, if_pos rfl]
/-- Those of a list of children that take the part r. -/
def fK (ns : List PN) (r : Int) (ks : List Int) : List Int := ks.filter fun k => rlZ (ndAt ns k).sty == r
theorem fK_le (ns : List PN) (r : Int) (ks : List Int) : (fK ns r ks).length ≤ ks.length := List.length_filter_le _ _
theorem fK_take {ns : List PN} {r : Int} {ks : List Int} {k : Nat} (h : k < ks.length) : fK ns r (ks.take (k + 1)) = if rlZ (ndAt ns (ks.getD k 0)).sty = r then fK ns r (ks.take k) ++ [ks.getD k 0] else fK ns r (ks.take k) := by
  have hg : ks.getD k 0 = ks[k] := by rw [List.getD_eq_getElem?_getD, List.getElem?_eq_getElem h]; rfl
  rw [List.take_succ_eq_append_getElem h, hg]
  unfold fK
  rw [List.filter_append]
  split
  · rename_i e; simp [e]
  · rename_i e; simp [e]
theorem kid_get {ns : List PN} {z : Int} {j : Nat} (h : j < (kidsZ ns z).length) : (kidsZ ns z).getD j 0 = (kidsZ ns z)[j] := by
  rw [List.getD_eq_getElem?_getD, List.getElem?_eq_getElem h]; rfl
theorem kids_len {ns : List PN} (ht : treeB ns = true) (z : Int) : (kidsZ ns z).length ≤ 12 := by
  unfold kidsZ
  split
  · rename_i h
    have h1 := nIn_iff.1 h
    rw [ndAt_get h1 (by omega)]
    exact kids_few ht (by omega)
  · simp
theorem kid_at {ns : List PN} (ht : treeB ns = true) {z : Int} {j : Nat} (h : j < (kidsZ ns z).length) : nIn ns.length ((kidsZ ns z).getD j 0) = true := by
  rw [kid_get h]; exact (kid_of ht (List.getElem_mem h)).1
/-- What ApartKids answers. -/
def apV (ns : List PN) (z : Int) : List Int := if (nIn ns.length z && treeB ns) = true then fK ns 1 (kidsZ ns z) else []
theorem fK_all {ns : List PN} (ht : treeB ns = true) (r z : Int) : AllI (fK ns r (kidsZ ns z)) := fun k hk => by
  have h1 := nIn_iff.1 (kid_of ht (List.mem_filter.1 hk).1).1
  have h2 := treeB_len ht
  omega
theorem apV_all (ns : List PN) (z : Int) : AllI (apV ns z) := by
  unfold apV
  split
  · rename_i h
    exact fK_all (by simp only [Bool.and_eq_true] at h; exact h.2) 1 z
  · intro k hk; cases hk
theorem apV_len (ns : List PN) (z : Int) : (apV ns z).length ≤ 12 := by
  unfold apV
  split
  · rename_i h
    exact Nat.le_trans (fK_le ns 1 _) (kids_len (by simp only [Bool.and_eq_true] at h; exact h.2) z)
  · simp
/-- A node's order. -/
def ordK (ns : List PN) (k : Int) : Int := (ndAt ns k).sty 8
/-- x put in at j. -/
def insA (P : List Int) (x : Int) (j : Nat) : List Int := P.take j ++ x :: P.drop j
/-- Where x goes, looked for from j down. -/
def insJ (f : Int → Int) (P : List Int) (x : Int) : Nat → Nat
  | 0 => 0
  | j + 1 => if f x < f (P.getD j 0) then insJ f P x j else j + 1
/-- Sorted by f, equal ones in their order. -/
def srt (f : Int → Int) (ks : List Int) : List Int := ks.foldl (fun P x => insA P x (insJ f P x P.length)) []
theorem insJ_le (f : Int → Int) (P : List Int) (x : Int) : ∀ j, insJ f P x j ≤ j
  | 0 => Nat.le_refl _
  | j + 1 => by
    have := insJ_le f P x j
    unfold insJ
    split <;> omega
theorem insA_len (P : List Int) (x : Int) {j : Nat} (h : j ≤ P.length) : (insA P x j).length = P.length + 1 := by simp [insA]; omega
theorem insA_mem {P : List Int} {x k : Int} {j : Nat} : k ∈ insA P x j → k = x ∨ k ∈ P := fun h => by
  unfold insA at h
  simp only [List.mem_append, List.mem_cons] at h
  rcases h with h | h | h
  · exact Or.inr (List.mem_of_mem_take h)
  · exact Or.inl h
  · exact Or.inr (List.mem_of_mem_drop h)
theorem insA_end (P : List Int) (x : Int) : insA P x P.length = P ++ [x] := by simp [insA]
theorem insA_at (P R : List Int) (x : Int) {j : Nat} (h : j ≤ P.length) : (insA P x j ++ R)[j]? = some x := by
  unfold insA
  rw [List.append_assoc, List.getElem?_append_right (by simp; omega), List.length_take, Nat.min_eq_left h, Nat.sub_self]
  rfl
theorem insA_left (P R : List Int) (x : Int) {q : Nat} (h : q < P.length) : (insA P x (q + 1) ++ R)[q]? = some (P.getD q 0) := by
  unfold insA
  rw [List.append_assoc, List.getElem?_append_left (by simp; omega), List.getElem?_take_of_lt (by omega), List.getElem?_eq_getElem h, List.getD_eq_getElem?_getD, List.getElem?_eq_getElem h]
  rfl
theorem insA_swap (P R : List Int) (x : Int) {q : Nat} (h : q < P.length) : ((insA P x (q + 1) ++ R).set (q + 1) (P.getD q 0)).set q x = insA P x q ++ R := by
  have hg : P.getD q 0 = P[q] := by rw [List.getD_eq_getElem?_getD, List.getElem?_eq_getElem h]; rfl
  have h1 : P.take (q + 1) = P.take q ++ [P[q]] := List.take_succ_eq_append_getElem h
  have h2 : P.drop q = P[q] :: P.drop (q + 1) := List.drop_eq_getElem_cons h
  have hl : (P.take q).length = q := by simp; omega
  rw [hg]
  unfold insA
  rw [h1, h2]
  generalize P.take q = A at *
  generalize P[q] = y at *
  generalize P.drop (q + 1) = B at *
  subst hl
  simp
theorem srt_snoc (f : Int → Int) (ks : List Int) (x : Int) : srt f (ks ++ [x]) = insA (srt f ks) x (insJ f (srt f ks) x (srt f ks).length) := by unfold srt; rw [List.foldl_append]; rfl
theorem srt_len (f : Int → Int) (ks : List Int) : (srt f ks).length = ks.length := by
  have key : ∀ n, n ≤ ks.length → (srt f (ks.take n)).length = n := fun n => by
    induction n with
    | zero => intro _; rfl
    | succ n ih =>
      intro h
      rw [List.take_succ_eq_append_getElem (by omega), srt_snoc, insA_len _ _ (insJ_le ..), ih (by omega)]
  have := key ks.length (Nat.le_refl _)
  rwa [List.take_length] at this
theorem srt_mem (f : Int → Int) (ks : List Int) : ∀ k ∈ srt f ks, k ∈ ks := by
  have key : ∀ n, n ≤ ks.length → ∀ k ∈ srt f (ks.take n), k ∈ ks := fun n => by
    induction n with
    | zero => intro _ k hk; cases hk
    | succ n ih =>
      intro h k hk
      rw [List.take_succ_eq_append_getElem (by omega), srt_snoc] at hk
      rcases insA_mem hk with h1 | h1
      · rw [h1]; exact List.getElem_mem _
      · exact ih (by omega) k h1
  have := key ks.length (Nat.le_refl _)
  rwa [List.take_length] at this
theorem srt_take {f : Int → Int} {ks : List Int} {i : Nat} (h : i < ks.length) : srt f (ks.take (i + 1)) = insA (srt f (ks.take i)) (ks.getD i 0) (insJ f (srt f (ks.take i)) (ks.getD i 0) i) := by
  have hl : (srt f (ks.take i)).length = i := by rw [srt_len]; simp; omega
  have hg : ks.getD i 0 = ks[i] := by rw [List.getD_eq_getElem?_getD, List.getElem?_eq_getElem h]; rfl
  rw [List.take_succ_eq_append_getElem h, srt_snoc, hl, hg]
theorem srt_one (f : Int → Int) (ks : List Int) : srt f (ks.take 1) = ks.take 1 := by
  cases ks with
  | nil => rfl
  | cons k ks => rfl
/-- What FlowKids answers. -/
def flV (ns : List PN) (z : Int) : List Int := if (nIn ns.length z && treeB ns) = true then srt (ordK ns) (fK ns 0 (kidsZ ns z)) else []
theorem flV_all (ns : List PN) (z : Int) : AllI (flV ns z) := by
  unfold flV
  split
  · rename_i h
    intro k hk
    exact fK_all (by simp only [Bool.and_eq_true] at h; exact h.2) 0 z k (srt_mem _ _ k hk)
  · intro k hk; cases hk
theorem flV_len (ns : List PN) (z : Int) : (flV ns z).length ≤ 12 := by
  unfold flV
  split
  · rename_i h
    rw [srt_len]
    exact Nat.le_trans (fK_le ns 0 _) (kids_len (by simp only [Bool.and_eq_true] at h; exact h.2) z)
  · simp
theorem iroleof (f : Nat → Int) (w : World) :
    Calls Try.prog 96 #[.agg (sCells f)] w fun e w' => e = .returned (.int .i64 (rlZ f)) ∧ Below w.heap.size w w' := by
  have h0 := hp_new w (.cells (sCells f) 41)
  have bb : Below w.heap.size w (w.alloc (.cells (sCells f) 41)) := Go.Joins.below_alloc1 ..
  obtain ⟨u, eu⟩ : ∃ u, u = w.alloc (.cells (sCells f) 41) := ⟨_, rfl⟩
  rw [← eu] at h0 bb
  have EU := Lib.hid eu
  clear eu
  have c7 := sty_bool h0 7 (Or.inr rfl)
  have c6 := sty_bool h0 6 (Or.inl rfl)
  have er : rlZ f = if bz (f 7) = true then 2 else if bz (f 6) = true then 1 else 0 := rfl
  rw [er]
  generalize bz (f 7) = h at *
  generalize bz (f 6) = q at *
  clear er
  cases h <;> cases q
  all_goals
    go_enter Try.func96, Try.ntmps96
    go_wp2_with (rw [← EU.out])
    go_ret
    exact ⟨rfl, bb⟩
/-- What nodeOf answers. -/
def NoPost (a : Option Addr) (ns : List PN) (z : Int) (w : World) (e : Ending) (w' : World) : Prop :=
  Below w.heap.size w w' ∧ if (nIn ns.length z && treeB ns) = true then
    ∃ G b off s, e = .returned (.pointer (some ⟨s, 0, none⟩)) ∧ a = some ⟨b, off, none⟩ ∧ w.heap.size ≤ G ∧ Linked w' G b off (linksOf ns) ∧ PtrTo w' G ns.length z (.pointer (some ⟨s, 0, none⟩))
  else e = .returned (.pointer none)
set_option maxHeartbeats 1000000 in
theorem inodeof (a : Option Addr) (cap : Nat) (ns : List PN) (z : Int) (w : World) (hz : Nds w a ns) (hl : szS ns ≤ 1048576) (hz0 : I64 z) :
    Calls Try.prog 90 #[.agg #[.slice a ns.length cap], .int .i64 z] w (NoPost a ns z w) := by
  obtain ⟨b, off, ha⟩ := hz.place
  have hnl : ns.length ≤ 1048576 := by unfold szS at hl; omega
  have B0 := bel_alloc w (.cells #[.slice a ns.length cap] 26)
  have h0 := hp_new w (.cells #[.slice a ns.length cap] 26)
  obtain ⟨u, eu⟩ : ∃ u, u = w.alloc (.cells #[.slice a ns.length cap] 26) := ⟨_, rfl⟩
  rw [← eu] at h0 B0
  have hus : w.heap.size < u.heap.size := by rw [eu]; simp
  have EU := Lib.hid eu
  have HZ := Lib.hid (hz.below B0)
  have HB := Lib.hid B0
  have HI := Lib.hid hz0
  have HA := Lib.hid ha
  have H0 := Lib.hid h0
  have KH := Lib.hid (ihasnode a cap ns z u HZ.out hl)
  have c0 := Go.Joins.cell_of_block h0 0
  simp at c0
  clear hz B0 hz0 ha eu h0
  have hne : (nIn ns.length z && treeB ns) = true → a = some ⟨b, off, none⟩ := fun h => by
    simp only [Bool.and_eq_true] at h
    have h1 := nIn_iff.1 h.1
    rcases HA.out with e | e
    · rw [e] at h1; simp at h1; omega
    · exact e
  have HNE := Lib.hid hne
  clear hne
  by_cases hh : (nIn ns.length z && treeB ns) = true
  · have HH := Lib.hid hh
    rw [hh] at KH HNE
    clear hh
    go_enter Try.func90, Try.ntmps90
    go_wp2_with (rw [← EU.out])
    refine KH.out.mono ?_
    rintro e w1 ⟨rfl, b1⟩
    have H1 := hp_below H0.out b1
    replace c0 := Go.Joins.cell_of_block H1 0
    simp at c0
    have HZ1 := Lib.hid (HZ.out.below b1)
    have HB1 := Lib.hid (HB.out.trans (b1.mono HB.out.size))
    have hu1 := b1.size
    clear b1 H1
    dsimp only
    go_wp2_with (fail)
    refine (ilinkedof a cap b off ns _ HZ1.out hl HA.out).mono ?_
    rintro e w2 ⟨rfl, hL, b2⟩
    have hG : w.heap.size ≤ w1.heap.size + 1 := by omega
    generalize w1.heap.size + 1 = G at *
    have HL2 := Lib.hid hL
    have HB2 := Lib.hid (HB1.out.trans (b2.mono HB1.out.size))
    clear b2 hL c0
    dsimp only
    go_wp2_with (fail)
    refine (iat G ns.length ns.length z w2 HI.out (by have := HL2.out.1; rwa [linksOf_len] at this) (by have := HL2.out.2.1; rwa [linksOf_len] at this) hnl).mono ?_
    rintro e w3 ⟨p, rfl, hp, b3⟩
    obtain ⟨s, rfl, hs⟩ := hp
    have HP := Lib.hid (show PtrTo w3 G ns.length z (.pointer (some ⟨s, 0, none⟩)) from ⟨s, rfl, hs⟩)
    have HL3 := Lib.hid (HL2.out.below b3)
    have HB3 := Lib.hid (HB2.out.trans (b3.mono HB2.out.size))
    clear b3 hs
    dsimp only
    go_wp2_with (fail)
    go_ret
    exact ⟨HB3.out, by rw [if_pos HH.out]; exact ⟨G, b, off, s, rfl, HNE.out trivial, hG, HL3.out, HP.out⟩⟩
  · have hh' : (nIn ns.length z && treeB ns) = false := by simpa using hh
    have HH := Lib.hid hh
    rw [hh'] at KH
    clear hh hh'
    go_enter Try.func90, Try.ntmps90
    go_wp2_with (rw [← EU.out])
    refine KH.out.mono ?_
    rintro e w1 ⟨rfl, b1⟩
    have HB1 := Lib.hid (HB.out.trans (b1.mono HB.out.size))
    clear b1
    dsimp only
    go_wp2_with (fail)
    go_ret
    exact ⟨HB1.out, by rw [if_neg HH.out]; rfl⟩
/-- What lies behind the pointer to the node z. -/
theorem Linked.look {w : World} {G b off : Nat} {ns : List PN} {a : Option Addr} (hL : Linked w G b off (linksOf ns)) (hz : Nds w a ns) (ha : a = some ⟨b, off, none⟩) {z : Int} {s : Nat} (h : PtrTo w G ns.length z (.pointer (some ⟨s, 0, none⟩))) (hin : nIn ns.length z = true) :
    ∃ (k : Nat) (upv : Value) (va : Option Addr) (vc : Nat), z = (k : Int) + 1 ∧ k < ns.length ∧ s = G + 1 + k ∧ w.cell? ⟨s, 0, none⟩ = some (.int .i64 z) ∧ w.cell? ⟨s, 1, none⟩ = some (.pointer (some ⟨b, off + k * 64, none⟩)) ∧ w.cell? ⟨s, 2, none⟩ = some upv ∧ UpP w G ns.length (upZ ns z) upv ∧
      w.cell? ⟨s, 3, none⟩ = some (.slice va (kidsZ ns z).length vc) ∧ KidsAt w G ns.length va (kidsZ ns z) ∧ NodeAt w b (off + k * 64) (ndAt ns z) := by
  obtain ⟨l, q, upv, kv, hzq, hq, hlq, hh, hup, _⟩ := hL.at (z := z) (by rw [linksOf_len]; exact hin)
  rw [linksOf_len] at hq hup
  obtain ⟨va, vc, c3, hka⟩ := hL.kids h
  obtain ⟨s', e, h'⟩ := h
  simp at e
  subst e
  have hs : s = G + 1 + q := by
    rcases h' with ⟨h1, h2⟩ | ⟨h1, _⟩
    · omega
    · rw [hin] at h1; cases h1
  subst hs
  have hupz : upZ ns z = l.1 := by rw [hzq]; exact linksOf_up hlq
  obtain ⟨b', off', eab, _, hnd⟩ := hz.look hq
  rw [ha] at eab
  simp at eab
  obtain ⟨rfl, rfl⟩ := eab
  refine ⟨q, upv, va, vc, hzq, hq, rfl, ?_, (Go.Joins.cell_of_block hh 1).trans rfl, (Go.Joins.cell_of_block hh 2).trans rfl, by rw [hupz]; exact hup, c3, hka, ?_⟩
  · rw [hzq]; exact (Go.Joins.cell_of_block hh 0).trans rfl
  · rw [hzq, ndAt_nat hq]; exact hnd
/-- The pointers' depth, for the loops' measure. -/
def pdV (ns : List PN) (G : Nat) : Value → Nat
  | .pointer (some a) => (dpV ns ((a.block : Int) - G)).toNat
  | _ => 0
theorem pdV_at {w : World} {ns : List PN} {G s : Nat} {z : Int} {d : Nat} (h : PtrTo w G ns.length z (.pointer (some ⟨s, 0, none⟩))) (hin : nIn ns.length z = true) (hd : dpR ns z d) : pdV ns G (.pointer (some ⟨s, 0, none⟩)) = d := by
  obtain ⟨s', e, h'⟩ := h
  simp at e
  subst e
  rcases h' with ⟨h1, h2⟩ | ⟨h1, _⟩
  · have : ((s : Int) - G) = z := by omega
    simp only [pdV]
    rw [this, dpV_of hd]
    simp
  · rw [hin] at h1; cases h1
def GoRel (G : Nat) (ns : List PN) (z0 : Int) (w0 : World) (p : Value) (wr : World) : Prop :=
  ∃ (d f : Nat) (z : Int), d ≤ f ∧ goF ns 4 z0 = goF ns f z ∧ Below w0.heap.size w0 wr ∧ ((p = .pointer none ∧ z = 0) ∨ (dpR ns z d ∧ nIn ns.length z = true ∧ PtrTo wr G ns.length z p))
set_option maxHeartbeats 2000000 in
theorem iisgone (a : Option Addr) (cap : Nat) (ns : List PN) (z0 : Int) (w : World) (hz : Nds w a ns) (hl : szS ns ≤ 1048576) (hz0 : I64 z0) :
    Calls Try.prog 42 #[.agg #[.slice a ns.length cap], .int .i64 z0] w fun e w' => e = .returned (.bool (goB ns z0)) ∧ Below w.heap.size w w' := by
  have B0 := bel_alloc w (.cells #[.slice a ns.length cap] 26)
  obtain ⟨u, eu⟩ : ∃ u, u = w.alloc (.cells #[.slice a ns.length cap] 26) := ⟨_, rfl⟩
  rw [← eu] at B0
  have EU := Lib.hid eu
  have HZ := Lib.hid (hz.below B0)
  have HB := Lib.hid B0
  have KN := Lib.hid (inodeof a cap ns z0 u HZ.out hl hz0)
  have h0 := hp_new w (.cells #[.slice a ns.length cap] 26)
  rw [← eu] at h0
  have c0 := Go.Joins.cell_of_block h0 0
  simp at c0
  clear B0 hz eu h0
  by_cases hh : (nIn ns.length z0 && treeB ns) = true
  · have hv : goB ns z0 = goF ns 4 z0 := by unfold goB; rw [if_pos hh]
    have hd0 : ∃ d, dpR ns z0 d ∧ 1 ≤ d ∧ d ≤ 4 := by
      simp only [Bool.and_eq_true] at hh
      exact dep_of hh.2 hh.1
    have hi0 : nIn ns.length z0 = true := by simp only [Bool.and_eq_true] at hh; exact hh.1
    have HV := Lib.hid hv
    have HD0 := Lib.hid hd0
    have HI0 := Lib.hid hi0
    have HH := Lib.hid hh
    clear hv hd0 hi0 hh
    go_enter Try.func42, Try.ntmps42
    go_wp2_with (rw [← EU.out])
    refine KN.out.mono ?_
    rintro e w1 ⟨b1, h1⟩
    rw [if_pos HH.out] at h1
    obtain ⟨G, b, off, s0, rfl, ha, _, hL, hp⟩ := h1
    have heq0 : (binOp .eql 84 (.pointer (some ⟨s0, 0, none⟩)) (.pointer none)).run Try.prog w1 = .ok (.bool false) w1 := by kernel_rfl
    have HL := Lib.hid hL
    have HP := Lib.hid hp
    have HZ1 := Lib.hid (HZ.out.below b1)
    have HB1 := Lib.hid (HB.out.trans (b1.mono HB.out.size))
    clear b1 hL hp c0
    dsimp only
    go_wp2_with (fail)
    go_loopw [5] (fun p wr => GoRel G ns z0 w1 p wr) (fun p _ => pdV ns G p)
    case atStart =>
      obtain ⟨d, h1, h2, h3⟩ := HD0.out
      exact ⟨d, 4, z0, h3, rfl, Below.refl _ _, Or.inr ⟨h1, HI0.out, HP.out⟩⟩
    case round =>
      obtain ⟨d, f, z, hdf, hg, hb, hpz⟩ := hrel
      have HG := Lib.hid hg
      have HBB := Lib.hid (HB1.out.trans (hb.mono HB1.out.size))
      have HBr := Lib.hid hb
      clear hg hb
      rcases hpz with ⟨rfl, rfl⟩ | ⟨hd, hin, hp⟩
      · have hv : goB ns z0 = false := by rw [HV.out, HG.out, goF_zero]
        have HVV := Lib.hid hv
        clear hv
        go_wp2
        go_ret
        exact ⟨by rw [HVV.out]; rfl, HBB.out⟩
      · obtain ⟨s, rfl, hs⟩ := hp
        have hp : PtrTo wr G ns.length z (.pointer (some ⟨s, 0, none⟩)) := ⟨s, rfl, hs⟩
        obtain ⟨k, upv, va, vc, hzk, hk, hsk, c0, c1, c2, hup, _, _, hnd⟩ := (HL.out.below HBr.out).look (HZ1.out.below HBr.out) ha hp hin
        have hpd := pdV_at hp hin hd
        have hz1 := nIn_ne hin
        obtain ⟨kv', tv, hrg, _, _⟩ := hnd
        have RG := Lib.hid (range_styN hrg)
        obtain ⟨d', rfl⟩ : ∃ d', d = d' + 1 := ⟨d - 1, by
          cases d with
          | zero => exact absurd hd.1 hz1
          | succ d => omega⟩
        obtain ⟨f', rfl⟩ : ∃ f', f = f' + 1 := ⟨f - 1, by omega⟩
        have hst : goF ns (f' + 1) z = if hidZ ns z = true then true else goF ns f' (upZ ns z) := by rw [goF, if_neg hz1]
        have HST := Lib.hid hst
        have KR := Lib.hid (iroleof (ndAt ns z).sty wr)
        have HUP := Lib.hid hup
        have HD := Lib.hid (dpR_up hd).2
        have HPD := Lib.hid hpd
        have hhz : hidZ ns z = hdS (ndAt ns z).sty := rfl
        have HHZ := Lib.hid hhz
        have hneq : (binOp .neq 84 (.pointer (some ⟨s, 0, none⟩)) (.pointer none)).run Try.prog wr = .ok (.bool true) wr := by kernel_rfl
        clear hst hup hd hpd hs hp hrg hhz heq0 hsk hzk
        go_wp2_with (first
          | ((with_reducible apply list_load_styAt); exact rfl; exact rfl; exact rfl; (with_reducible exact RG.out); simp only [Act.put, List.setIfInBounds_toArray, List.set_cons_succ, List.set_cons_zero])
          | fail)
        refine KR.out.mono ?_
        rintro e w2 ⟨rfl, b2⟩
        have hb2 := HBr.out.trans (b2.mono HBr.out.size)
        have c2' := (b2.cell (p := ⟨s, 2, none⟩) (World.block_lt_of_cell? _ _ c2)).trans c2
        have hup2 := HUP.out.below b2
        have HUP2 := Lib.hid hup2
        have HB2 := Lib.hid hb2
        clear b2 hb2 hup2 c0 c1 c2
        by_cases hhd : hdS (ndAt ns z).sty = true
        · have er : rlZ (ndAt ns z).sty = 2 := by unfold rlZ; rw [if_pos hhd]
          have hv : goB ns z0 = true := by rw [HV.out, HG.out, HST.out, if_pos (HHZ.out.trans hhd)]
          have HVV := Lib.hid hv
          rw [er]
          clear hv er hhd
          dsimp only
          go_wp2
          go_ret
          exact ⟨by rw [HVV.out]; rfl, HB1.out.trans (HB2.out.mono HB1.out.size)⟩
        · have er : rlZ (ndAt ns z).sty ≠ 2 := by unfold rlZ; rw [if_neg hhd]; split <;> decide
          have hv : goF ns 4 z0 = goF ns f' (upZ ns z) := by rw [HG.out, HST.out, if_neg (by rw [HHZ.out]; exact hhd)]
          have HVV := Lib.hid hv
          clear hv hhd
          generalize rlZ (ndAt ns z).sty = r at *
          dsimp only
          go_wp2
          go_roundw
          case rel =>
            refine ⟨d', f', upZ ns z, by omega, HVV.out, HB2.out, ?_⟩
            have hu := HUP2.out
            unfold UpP at hu
            by_cases e : upZ ns z = 0
            · rw [if_pos e] at hu; exact Or.inl ⟨hu, e⟩
            · rw [if_neg e] at hu
              refine Or.inr ⟨HD.out, ?_, hu⟩
              cases d' with
              | zero => exact absurd HD.out.1 e
              | succ d => exact (dpR_up HD.out).1
          case measure =>
            rw [HPD.out]
            have hu := HUP2.out
            unfold UpP at hu
            by_cases e : upZ ns z = 0
            · rw [if_pos e] at hu; rw [hu]; simp [pdV]
            · rw [if_neg e] at hu
              obtain ⟨s2, rfl, h2⟩ := hu
              have hin2 : nIn ns.length (upZ ns z) = true := by
                cases d' with
                | zero => exact absurd HD.out.1 e
                | succ d => exact (dpR_up HD.out).1
              rw [pdV_at ⟨s2, rfl, h2⟩ hin2 HD.out]
              omega
  · have hv : goB ns z0 = true := by unfold goB; rw [if_neg hh]
    have HV := Lib.hid hv
    have HH := Lib.hid hh
    clear hv hh
    go_enter Try.func42, Try.ntmps42
    go_wp2_with (rw [← EU.out])
    refine KN.out.mono ?_
    rintro e w1 ⟨b1, h1⟩
    rw [if_neg HH.out] at h1
    subst h1
    have HB1 := Lib.hid (HB.out.trans (b1.mono HB.out.size))
    clear b1 c0
    dsimp only
    go_wp2_with (fail)
    go_ret
    exact ⟨by rw [HV.out]; rfl, HB1.out⟩
def RtRel (G : Nat) (ns : List PN) (z0 : Int) (w0 : World) (p : Value) (wr : World) : Prop :=
  ∃ (d f : Nat) (z : Int), d ≤ f ∧ rtF ns 4 z0 = rtF ns f z ∧ wr = w0 ∧ dpR ns z d ∧ nIn ns.length z = true ∧ PtrTo wr G ns.length z p
set_option maxHeartbeats 2000000 in
theorem irootof (a : Option Addr) (cap : Nat) (ns : List PN) (z0 : Int) (w : World) (hz : Nds w a ns) (hl : szS ns ≤ 1048576) (hz0 : I64 z0) :
    Calls Try.prog 44 #[.agg #[.slice a ns.length cap], .int .i64 z0] w fun e w' => e = .returned (.int .i64 (rtZ ns z0)) ∧ Below w.heap.size w w' := by
  have B0 := bel_alloc w (.cells #[.slice a ns.length cap] 26)
  obtain ⟨u, eu⟩ : ∃ u, u = w.alloc (.cells #[.slice a ns.length cap] 26) := ⟨_, rfl⟩
  rw [← eu] at B0
  have EU := Lib.hid eu
  have HZ := Lib.hid (hz.below B0)
  have HB := Lib.hid B0
  have KN := Lib.hid (inodeof a cap ns z0 u HZ.out hl hz0)
  have h0 := hp_new w (.cells #[.slice a ns.length cap] 26)
  rw [← eu] at h0
  have c0 := Go.Joins.cell_of_block h0 0
  simp at c0
  clear B0 hz eu h0
  by_cases hh : (nIn ns.length z0 && treeB ns) = true
  · have hv : rtZ ns z0 = rtF ns 4 z0 := by unfold rtZ; rw [if_pos hh]
    have hd0 : ∃ d, dpR ns z0 d ∧ 1 ≤ d ∧ d ≤ 4 := by
      simp only [Bool.and_eq_true] at hh
      exact dep_of hh.2 hh.1
    have hi0 : nIn ns.length z0 = true := by simp only [Bool.and_eq_true] at hh; exact hh.1
    have HV := Lib.hid hv
    have HD0 := Lib.hid hd0
    have HI0 := Lib.hid hi0
    have HH := Lib.hid hh
    clear hv hd0 hi0 hh
    go_enter Try.func44, Try.ntmps44
    go_wp2_with (rw [← EU.out])
    refine KN.out.mono ?_
    rintro e w1 ⟨b1, h1⟩
    rw [if_pos HH.out] at h1
    obtain ⟨G, b, off, s0, rfl, ha, _, hL, hp⟩ := h1
    have heq0 : (binOp .eql 84 (.pointer (some ⟨s0, 0, none⟩)) (.pointer none)).run Try.prog w1 = .ok (.bool false) w1 := by kernel_rfl
    have HL := Lib.hid hL
    have HP := Lib.hid hp
    have HZ1 := Lib.hid (HZ.out.below b1)
    have HB1 := Lib.hid (HB.out.trans (b1.mono HB.out.size))
    clear b1 hL hp c0
    dsimp only
    go_wp2_with (fail)
    go_loopw [5] (fun p wr => RtRel G ns z0 w1 p wr) (fun p _ => pdV ns G p)
    case atStart =>
      obtain ⟨d, h1, h2, h3⟩ := HD0.out
      exact ⟨d, 4, z0, h3, rfl, rfl, h1, HI0.out, HP.out⟩
    case round =>
      obtain ⟨d, f, z, hdf, hg, rfl, hd, hin, hp⟩ := hrel
      have HG := Lib.hid hg
      clear hg
      obtain ⟨s, rfl, hs⟩ := hp
      have hp : PtrTo wr G ns.length z (.pointer (some ⟨s, 0, none⟩)) := ⟨s, rfl, hs⟩
      obtain ⟨k, upv, va, vc, hzk, hk, hsk, c0, c1, c2, hup, _, _, hnd⟩ := HL.out.look HZ1.out ha hp hin
      have hpd := pdV_at hp hin hd
      have hz1 := nIn_ne hin
      obtain ⟨d', rfl⟩ : ∃ d', d = d' + 1 := ⟨d - 1, by
        cases d with
        | zero => exact absurd hd.1 hz1
        | succ d => omega⟩
      obtain ⟨f', rfl⟩ : ∃ f', f = f' + 1 := ⟨f - 1, by omega⟩
      have hst : rtF ns (f' + 1) z = if upZ ns z = 0 then z else rtF ns f' (upZ ns z) := by rw [rtF]
      have HST := Lib.hid hst
      have HUP := Lib.hid hup
      have HD := Lib.hid (dpR_up hd).2
      have HPD := Lib.hid hpd
      clear hst hup hd hpd hs hp heq0 hsk hzk hnd
      by_cases e0 : upZ ns z = 0
      · have hu := HUP.out
        unfold UpP at hu
        rw [if_pos e0] at hu
        subst hu
        have hv : rtZ ns z0 = z := by rw [HV.out, HG.out, HST.out, if_pos e0]
        have HVV := Lib.hid hv
        have hneq : (binOp .neq 84 (.pointer none) (.pointer none)).run Try.prog wr = .ok (.bool false) wr := by kernel_rfl
        clear hv
        go_wp2
        go_ret
        exact ⟨by rw [HVV.out]; rfl, HB1.out⟩
      · have hu := HUP.out
        unfold UpP at hu
        rw [if_neg e0] at hu
        obtain ⟨s2, rfl, h2⟩ := hu
        have hneq : (binOp .neq 84 (.pointer (some ⟨s2, 0, none⟩)) (.pointer none)).run Try.prog wr = .ok (.bool true) wr := by kernel_rfl
        have hin2 : nIn ns.length (upZ ns z) = true := by
          cases d' with
          | zero => exact absurd HD.out.1 e0
          | succ d => exact (dpR_up HD.out).1
        have hp2 : PtrTo wr G ns.length (upZ ns z) (.pointer (some ⟨s2, 0, none⟩)) := ⟨s2, rfl, h2⟩
        have HP2 := Lib.hid hp2
        have HIN2 := Lib.hid hin2
        clear h2 hp2 hin2
        go_wp2
        go_roundw
        case rel => exact ⟨d', f', upZ ns z, by omega, by rw [HG.out, HST.out, if_neg e0], rfl, HD.out, HIN2.out, HP2.out⟩
        case measure =>
          rw [HPD.out, pdV_at HP2.out HIN2.out HD.out]
          omega
  · have hv : rtZ ns z0 = 0 := by unfold rtZ; rw [if_neg hh]
    have HV := Lib.hid hv
    have HH := Lib.hid hh
    clear hv hh
    go_enter Try.func44, Try.ntmps44
    go_wp2_with (rw [← EU.out])
    refine KN.out.mono ?_
    rintro e w1 ⟨b1, h1⟩
    rw [if_neg HH.out] at h1
    subst h1
    have HB1 := Lib.hid (HB.out.trans (b1.mono HB.out.size))
    clear b1 c0
    dsimp only
    go_wp2_with (fail)
    go_ret
    exact ⟨by rw [HV.out]; rfl, HB1.out⟩
end Go.Proofs.Ytiogjbdaaplhpaa
end
