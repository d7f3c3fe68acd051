/-
  The linked nodes in memory: a row of pointers, a block a node, the children's pointers in rows of their own; the contracts of linkedTree.at and linkedNode.connect. Conditions: those of the lemma.
-/
import Derived.Test.YtjlgcnhjifdgfaaTrP
import Derived.Test.YtjlgcnhjifdgfaaNdW
import Derived.Test.YtjlgcnhjifdgfaaRng
import Derived.Test.YtjlgcnhjifdgfaaDep
import Derived.OwnWalk
import Derived.Deep.AppendLies
import Derived.Deep.CutRange
import Derived.Deep.CutBlock
import Derived.Deep.QuietTactic
import Derived.BigQuiet
namespace Go.Proofs.Ytjlgcnhjifdgfaa
open Go.ChangeShapes Go.WideShapes Go.ChangeAt Go.RowKit
set_option linter.unusedVariables false
set_option linter.unusedSimpArgs false
set_option maxRecDepth 8000

/-- A pointer to a block. -/
def ptr (g : Nat) : Value := .pointer (some ⟨g, 0, none⟩)
/-- A linked node's cells. -/
def lkA (i : Int) (nd up kv : Value) : Array Value := #[.int .i64 i, nd, up, kv]
/-- A stand-in. -/
def stand : Array Value := #[.int .i64 0, .pointer none, .pointer none, .slice none 0 0]
/-- The pointer p leads to the node z of n, or to a stand-in. -/
def PtrTo (w : World) (G n : Nat) (z : Int) (p : Value) : Prop :=
  ∃ s, p = .pointer (some ⟨s, 0, none⟩) ∧ ((nIn n z = true ∧ (s : Int) = G + z) ∨ (nIn n z = false ∧ G + n < s ∧ w.heap[s]? = some (.cells stand 111)))
/-- The row of pointers. -/
def AllP (w : World) (G n : Nat) : Prop := ∀ j, j < n → w.cell? ⟨G, j, none⟩ = some (.pointer (some ⟨G + 1 + j, 0, none⟩))
theorem PtrTo.grown {w w' : World} {G n : Nat} {z : Int} {p : Value} {row : Option Nat} (h : PtrTo w G n z p) (hg : w.grownBy w' row) (hr : ∀ b, row = some b → b ≤ G + n) : PtrTo w' G n z p := by
  obtain ⟨s, e, h⟩ := h
  refine ⟨s, e, h.imp id fun ⟨h1, h2, h3⟩ => ⟨h1, h2, ?_⟩⟩
  rw [hg.block s (hp_lt h3) (fun e => by have := hr s e.symm; omega)]
  exact h3
theorem PtrTo.below {w w' : World} {G n : Nat} {z : Int} {p : Value} (h : PtrTo w G n z p) (hb : Below w.heap.size w w') : PtrTo w' G n z p := by
  obtain ⟨s, e, h⟩ := h
  exact ⟨s, e, h.imp id fun ⟨h1, h2, h3⟩ => ⟨h1, h2, hp_below h3 hb⟩⟩
theorem PtrTo.lt {w : World} {G n : Nat} {z : Int} {p : Value} (h : PtrTo w G n z p) (hG : G + n < w.heap.size) : ∃ s, p = .pointer (some ⟨s, 0, none⟩) ∧ G < s ∧ s < w.heap.size := by
  obtain ⟨s, e, h⟩ := h
  rcases h with ⟨h1, h2⟩ | ⟨_, h2, h3⟩
  · have := nIn_iff.1 h1
    exact ⟨s, e, by omega, by omega⟩
  · exact ⟨s, e, by omega, hp_lt h3⟩
/-- Behind an append to a row of pointers. -/
theorem PtrTo.app {w w' : World} {G n : Nat} {z : Int} {p v : Value} {lo j : Nat} {ps : List Value} (h : PtrTo w G n z p) (hown : w.ownsRow lo 100 1 v j ps) (hg : w.grownBy w' v.ownBlock) : PtrTo w' G n z p := by
  obtain ⟨s, e, h⟩ := h
  refine ⟨s, e, h.imp id fun ⟨h1, h2, h3⟩ => ⟨h1, h2, ?_⟩⟩
  rw [hg.block s (hp_lt h3) (fun e => ?_)]
  · exact h3
  · rcases hown.2 with ⟨rfl, _⟩ | ⟨g, cap, cur, rfl, _, hgg, _⟩
    · simp [Value.ownBlock] at e
    · simp [Value.ownBlock] at e
      subst e
      rw [h3] at hgg
      simp at hgg
theorem AllP.below {w w' : World} {G n : Nat} (h : AllP w G n) (hG : G < w.heap.size) (hb : Below w.heap.size w w') : AllP w' G n := fun j hj => (hb.cell (p := ⟨G, j, none⟩) hG).trans (h j hj)
theorem AllP.grown {w w' : World} {G n : Nat} {row : Option Nat} (h : AllP w G n) (hG : G < w.heap.size) (hg : w.grownBy w' row) (hr : row ≠ some G) : AllP w' G n := fun j hj => (World.cell?_of_block (hg.block G hG (fun e => hr e.symm))).trans (h j hj)
theorem bel_grown {w w' : World} (hb : Below w.heap.size w w') (row : Option Nat) : w.grownBy w' row := ⟨hb.os, hb.tape, hb.output, hb.size, fun k hk _ => hb.block k hk⟩
theorem lk_grown {w w' : World} {g : Nat} {o : Obj} {row : Option Nat} (h : w.heap[g]? = some o) (hg : w.grownBy w' row) (hne : some g ≠ row) : w'.heap[g]? = some o := (hg.block g (hp_lt h) hne).trans h
theorem lk_far {w v v' : World} {row row' : Option Nat} (h : w.grownBy v row) (k : v.grownBy v' row') (hr : ∀ b, row' = some b → w.heap.size ≤ b) : w.grownBy v' row :=
  ⟨k.os.trans h.os, k.tape.trans h.tape, k.output.trans h.output, Nat.le_trans h.size k.size, fun i hi hne => (k.block i (Nat.lt_of_lt_of_le hi h.size) (fun e => by have := hr i e.symm; omega)).trans (h.block i hi hne)⟩
theorem bel_alloc (w : World) (o : Obj) : Below w.heap.size w (w.alloc o) := Go.Joins.below_alloc1 w o
theorem info_ptr : (Try.prog.info? 100).map (fun i => (i.zero, i.size, i.bytes)) = some (some (.pointer none), 1, 8) := by kernel_rfl

set_option maxHeartbeats 1000000 in
/-- linkedTree.at: a stand-in is new. -/
theorem iat_new (G n cap : Nat) (z : Int) (w : World) (hz : I64 z) (hall : AllP w G n) (hG : G + n < w.heap.size) (hn : n ≤ 1048576) :
    Calls Try.prog 56 #[.slice (some ⟨G, 0, none⟩) n cap, .int .i64 z] w fun e w' => ∃ p, e = .returned p ∧ PtrTo w' G n z p ∧ Below w.heap.size w w' ∧ (nIn n z = false → ∃ s, p = .pointer (some ⟨s, 0, none⟩) ∧ w.heap.size ≤ s) ∧ (nIn n z = true → w' = w) := by
  obtain ⟨hz0, hz1⟩ := hz
  by_cases hin : nIn n z = true
  · have h1 := nIn_iff.1 hin
    obtain ⟨k, rfl⟩ : ∃ k : Nat, z = (k : Int) + 1 := ⟨(z - 1).toNat, by omega⟩
    have c0 := hall k (by omega)
    have hlo : (0 : Int) ≤ (k : Int) := Int.natCast_nonneg _
    have hhi : (k : Int) < (n : Int) := by omega
    have hr : rnB ((k : Int) + 1) 1 n = true := hin
    have HIN := Lib.hid hin
    clear hall hin h1
    go_enter Try.func56, Try.ntmps56
    go_wp2_with (fail)
    refine (irng ((k : Int) + 1) 1 n _).mono ?_
    rintro e w1 ⟨rfl, rfl⟩
    rw [hr]
    dsimp only
    go_wp2
    go_ret
    exact ⟨_, rfl, ⟨G + 1 + k, rfl, Or.inl ⟨HIN.out, by omega⟩⟩, Below.refl _ _, fun h => by rw [HIN.out] at h; exact absurd h (by decide), fun _ => rfl⟩
  · have hin' : nIn n z = false := by simpa using hin
    have hr : rnB z 1 n = false := hin'
    have HIN := Lib.hid hin'
    clear hall hin hin'
    go_enter Try.func56, Try.ntmps56
    go_wp2_with (fail)
    refine (irng z 1 n _).mono ?_
    rintro e w1 ⟨rfl, rfl⟩
    rw [hr]
    dsimp only
    go_wp2
    go_ret
    exact ⟨_, rfl, ⟨w1.heap.size, rfl, Or.inr ⟨HIN.out, hG, hp_new w1 _⟩⟩, bel_alloc w1 _, fun _ => ⟨_, rfl, Nat.le_refl _⟩, fun h => by rw [HIN.out] at h; exact absurd h (by decide)⟩

/-- linkedTree.at -/
theorem iat (G n cap : Nat) (z : Int) (w : World) (hz : I64 z) (hall : AllP w G n) (hG : G + n < w.heap.size) (hn : n ≤ 1048576) :
    Calls Try.prog 56 #[.slice (some ⟨G, 0, none⟩) n cap, .int .i64 z] w fun e w' => ∃ p, e = .returned p ∧ PtrTo w' G n z p ∧ Below w.heap.size w w' :=
  (iat_new G n cap z w hz hall hG hn).mono fun e w' ⟨p, h1, h2, h3, _⟩ => ⟨p, h1, h2, h3⟩

/-- The pointers to the children, a row of the call's own. -/
def KidsP (w : World) (G n lo : Nat) (v : Value) (zs : List Int) : Prop :=
  ∃ ps : List Value, w.ownsRow lo 100 1 v zs.length ps ∧ ∀ (j : Nat) (z : Int), zs[j]? = some z → ∃ p, ps[j]? = some p ∧ PtrTo w G n z p
/-- The pointer to the parent. -/
def UpP (w : World) (G n : Nat) (z : Int) (v : Value) : Prop := if z = 0 then v = .pointer none else PtrTo w G n z v
theorem KidsP.grown {w w' : World} {G n lo : Nat} {v : Value} {zs : List Int} {b : Nat} (h : KidsP w G n lo v zs) (hg : w.grownBy w' (some b)) (hr : b ≤ G + n) (hlo : b < lo) : KidsP w' G n lo v zs := by
  obtain ⟨ps, h1, h2⟩ := h
  refine ⟨ps, World.ownsRow.kept h1 hg ?_, fun j z hz => ?_⟩
  · cases hv : v.ownBlock with
    | none => exact Or.inl rfl
    | some k => exact Or.inr fun e => by have := (World.ownsRow.lt h1 k hv).1; simp at e; omega
  · obtain ⟨p, h3, h4⟩ := h2 j z hz
    exact ⟨p, h3, h4.grown hg (fun x hx => by cases hx; exact hr)⟩
theorem KidsP.below {w w' : World} {G n lo : Nat} {v : Value} {zs : List Int} (h : KidsP w G n lo v zs) (hb : Below w.heap.size w w') : KidsP w' G n lo v zs := by
  obtain ⟨ps, h1, h2⟩ := h
  refine ⟨ps, ownsRow_from h1 (From.of_below hb), fun j z hz => ?_⟩
  obtain ⟨p, h3, h4⟩ := h2 j z hz
  exact ⟨p, h3, h4.below hb⟩
theorem UpP.grown {w w' : World} {G n : Nat} {z : Int} {v : Value} {b : Nat} (h : UpP w G n z v) (hg : w.grownBy w' (some b)) (hr : b ≤ G + n) : UpP w' G n z v := by
  unfold UpP at *
  split
  · rename_i e; rwa [if_pos e] at h
  · rename_i e; rw [if_neg e] at h; exact h.grown hg (fun x hx => by cases hx; exact hr)
theorem UpP.below {w w' : World} {G n : Nat} {z : Int} {v : Value} (h : UpP w G n z v) (hb : Below w.heap.size w w') : UpP w' G n z v := by
  unfold UpP at *
  split
  · rename_i e; rwa [if_pos e] at h
  · rename_i e; rw [if_neg e] at h; exact h.below hb
theorem UpP.app {w w' : World} {G n : Nat} {z : Int} {p v : Value} {lo j : Nat} {ps : List Value} (h : UpP w G n z p) (hown : w.ownsRow lo 100 1 v j ps) (hg : w.grownBy w' v.ownBlock) : UpP w' G n z p := by
  unfold UpP at *
  split
  · rename_i e; rwa [if_pos e] at h
  · rename_i e; rw [if_neg e] at h; exact h.app hown hg
theorem lk_nodep {b : Bool} {p : Prop} (hb : b = false) : b = true → p := fun h => by rw [hb] at h; cases h
/-- What is left of a round over the children: j are in. -/
def CoRel (G n i b o : Nat) (uz : Int) (upv : Value) (zs : List Int) (w : World) (jv : Value) (wr : World) : Prop :=
  ∃ (j : Nat) (va : Option Addr) (vc : Nat), j ≤ zs.length ∧ jv = .int .i64 j ∧ wr.heap[G + 1 + i]? = some (.cells (lkA (i + 1) (.pointer (some ⟨b, o, none⟩)) upv (.slice va j vc)) 111) ∧
    KidsP wr G n w.heap.size (.slice va j vc) (zs.take j) ∧ w.grownBy wr (some (G + 1 + i)) ∧ UpP wr G n uz upv
/-- What connect leaves. -/
def CoPost (G n i b o : Nat) (nd : PN) (w : World) (e : Ending) (w' : World) : Prop :=
  (∃ r, e = .returned r) ∧ ∃ upv kv, w'.heap[G + 1 + i]? = some (.cells (lkA (i + 1) (.pointer (some ⟨b, o, none⟩)) upv kv) 111) ∧ UpP w' G n nd.up upv ∧ KidsP w' G n w.heap.size kv nd.kids ∧ w.grownBy w' (some (G + 1 + i))
/-- Behind the parent. -/
def CuRel (G n i b o : Nat) (nd : PN) (w wx : World) : Prop :=
  ∃ upv, wx.heap[G + 1 + i]? = some (.cells (lkA (i + 1) (.pointer (some ⟨b, o, none⟩)) upv (.slice none 0 0)) 111) ∧ UpP wx G n nd.up upv ∧ w.grownBy wx (some (G + 1 + i))
theorem lkA_put2 (i : Int) (nd up kv v : Value) : (lkA i nd up kv).setIfInBounds 2 v = lkA i nd v kv := rfl
theorem lkA_put3 (i : Int) (nd up kv v : Value) : (lkA i nd up kv).setIfInBounds 3 v = lkA i nd up v := rfl
theorem grown_set (w : World) (g j : Nat) (v : Value) : w.grownBy (w.setCell ⟨g, j, none⟩ v) (some g) := ⟨rfl, rfl, rfl, by simp, fun k _ hk => Below.heap_setCell w ⟨g, j, none⟩ v k (fun e => hk (by simp [e]))⟩
theorem grown_trans {a b c : World} {row : Option Nat} (h : a.grownBy b row) (k : b.grownBy c row) : a.grownBy c row :=
  ⟨k.os.trans h.os, k.tape.trans h.tape, k.output.trans h.output, Nat.le_trans h.size k.size, fun i hi hne => (k.block i (Nat.lt_of_lt_of_le hi h.size) hne).trans (h.block i hi hne)⟩
set_option maxHeartbeats 2000000 in
/-- linkedNode.connect -/
theorem iconnect (G n cap i b o : Nat) (nd : PN) (w : World) (hok : nd.ok) (hk : nd.kids.length ≤ 1048576) (hi : i < n) (hn : n ≤ 1048576) (hall : AllP w G n) (hG : G + n < w.heap.size) (w0 : World) (hnd : NodeAt w0 b o nd) (hw0 : Below w0.heap.size w0 w) (hG0 : w0.heap.size ≤ G)
    (hs : w.heap[G + 1 + i]? = some (.cells (lkA (i + 1) (.pointer (some ⟨b, o, none⟩)) (.pointer none) (.slice none 0 0)) 111)) :
    Calls Try.prog 98 #[.pointer (some ⟨G + 1 + i, 0, none⟩), .slice (some ⟨G, 0, none⟩) n cap] w (CoPost G n i b o nd w) := by
  obtain ⟨i0, hi0, hz0, hz1, hz2⟩ := info_parts info_ptr
  obtain ⟨kv, tv, hrg, ⟨ka, kc, rfl, hki⟩, htt⟩ := hnd
  have hb : b < w0.heap.size := World.block_lt_of_cell? w0 _ (hrg 0 _ nL_up)
  have c0 : w.cell? ⟨b, o, none⟩ = some (.int .i64 nd.up) := rg_below hrg hw0 0 _ nL_up
  have hki' : ∀ wr, w.grownBy wr (some (G + 1 + i)) → Ints wr ka nd.kids.length nd.kids := fun wr hg => hki.below ((hw0.grown hg hw0.size (fun k hk => by cases hk; omega)).mono (Nat.le_refl _))
  have hkc : ∀ wr, w.grownBy wr (some (G + 1 + i)) → wr.cell? ⟨b, o + 1, none⟩ = some (.slice ka nd.kids.length kc) := fun wr hg => rg_below hrg (hw0.grown hg hw0.size (fun k hk => by cases hk; omega)) 1 _ nL_kids
  have c1 : w.cell? ⟨G + 1 + i, 1, none⟩ = some (.pointer (some ⟨b, o, none⟩)) := (Go.Joins.cell_of_block hs 1).trans rfl
  have HKC := Lib.hid hkc
  have HS := Lib.hid hs
  have HALL := Lib.hid hall
  have HKI := Lib.hid hki'
  have HOK := Lib.hid hok
  have hup : -9223372036854775808 ≤ nd.up ∧ nd.up ≤ 9223372036854775807 := hok.1
  clear hrg hs hall hki hki' hkc htt hok hw0
  go_enter Try.func98, Try.ntmps98
  go_upto_if 13 with (fail)
  go_cut [] from 13 to 25 (fun wx => CuRel G n i b o nd w wx)
  case first =>
    by_cases h0 : nd.up = 0
    · go_wp2_with (fail)
      go_meet
      case rel => exact ⟨_, HS.out, by unfold UpP; rw [if_pos h0], ⟨rfl, rfl, rfl, Nat.le_refl _, fun _ _ _ => rfl⟩⟩
    · go_wp2_with (fail)
      refine (iat G n cap nd.up w hup HALL.out hG hn).mono ?_
      rintro e w1 ⟨p, rfl, hp, b1⟩
      obtain ⟨s, rfl, hs1, hs2⟩ := hp.lt (Nat.lt_of_lt_of_le hG b1.size)
      have H1 := hp_below HS.out b1
      have z2 : w1.cell? ⟨G + 1 + i, 2, none⟩ = some (.pointer none) := (Go.Joins.cell_of_block H1 2).trans rfl
      have F2 := Go.Joins.unfrozen_of_block H1 2
      have H2 := Go.Joins.block_setCell (i := 2) H1 (.pointer (some ⟨s, 0, none⟩))
      rw [lkA_put2] at H2
      have g2 := grown_trans (bel_grown b1 (some (G + 1 + i))) (grown_set w1 (G + 1 + i) 2 (.pointer (some ⟨s, 0, none⟩)))
      have p2 := hp.grown (grown_set w1 (G + 1 + i) 2 (.pointer (some ⟨s, 0, none⟩))) (fun x hx => by cases hx; omega)
      have HH2 := Lib.hid H2
      have HG2 := Lib.hid g2
      have HP2 := Lib.hid p2
      clear H1 H2 g2 p2 hp b1
      (try dsimp only)
      go_wp2_with (fail)
      go_meet
      case rel => exact ⟨_, HH2.out, by unfold UpP; rw [if_neg h0]; exact HP2.out, HG2.out⟩
  case rest =>
    obtain ⟨upv, hs', hup', hg'⟩ := hcut
    have c1' : wc.cell? ⟨G + 1 + i, 1, none⟩ = some (.pointer (some ⟨b, o, none⟩)) := (Go.Joins.cell_of_block hs' 1).trans rfl
    have c2' := HKC.out wc hg'
    have HS' := Lib.hid hs'
    have HUP' := Lib.hid hup'
    have HG' := Lib.hid hg'
    clear c0 c1 hs' hup' hg'
    (try dsimp only)
    go_wp2_with (fail)
    go_loopw [5, 34] (fun _ jv wr => CoRel G n i b o nd.up upv nd.kids w jv wr) (fun _ j _ => nd.kids.length - (intOf j).toNat)
    case atStart => exact ⟨0, none, 0, Nat.zero_le _, rfl, HS'.out, ⟨[], World.ownsRow_nil _ _ _ _, fun j z h => by simp at h⟩, HG'.out, HUP'.out⟩
    case round =>
      obtain ⟨j, va, vc, hj, rfl, hs1, hkp, hg1, hup1⟩ := hrel
      clear c1' c2'
      by_cases hlt : j < nd.kids.length
      · obtain ⟨kb, koff, rfl, hkb, hkcell⟩ := (HKI.out wr hg1).look hlt
        have hlo : (0 : Int) ≤ (j : Int) := Int.natCast_nonneg _
        have hhi : (j : Int) < (nd.kids.length : Int) := by omega
        have hzj : nd.kids[j]? = some (nd.kids.getD j 0) := by rw [List.getD_eq_getElem?_getD, List.getElem?_eq_getElem hlt]; rfl
        have hz64 : I64 (nd.kids.getD j 0) := HOK.out.2.1 _ (List.mem_of_getElem? hzj)
        have HZJ := Lib.hid hzj
        have HKP := Lib.hid hkp
        have HG1 := Lib.hid hg1
        have HUP1 := Lib.hid hup1
        have HS1 := Lib.hid hs1
        have hGw : G + n < wr.heap.size := Nat.lt_of_lt_of_le hG hg1.size
        clear hzj hkp hg1 hup1 hs1
        generalize nd.kids.getD j 0 = z at *
        go_wp2_with (fail)
        have hgd : w.grownBy wr.drew (some (G + 1 + i)) := ⟨HG1.out.os, HG1.out.tape, HG1.out.output, HG1.out.size, HG1.out.block⟩
        have hsd : wr.drew.heap[G + 1 + i]? = _ := HS1.out
        have hkd : KidsP wr.drew G n w.heap.size (.slice va j vc) (nd.kids.take j) := HKP.out
        have hud : UpP wr.drew G n nd.up upv := HUP1.out
        have hld : G + n < wr.drew.heap.size := hGw
        have had : AllP wr.drew G n := HALL.out.grown (by omega) hgd (by simp; omega)
        have cT : wr.drew.cell? ⟨G + 1 + i, 3, none⟩ = some (.slice va j vc) := (Go.Joins.cell_of_block hsd 3).trans rfl
        clear HKP HG1 HUP1 HS1 hGw
        refine wp_region_any (by kernel_rfl) ?_
        change wpAny _ _ _ _ 13 (Array.replicate 13 false) _ wr.drew
        generalize wr.drew = w2 at *
        refine wpAny_take (i := 0) (oi := ⟨some 38, Op.move (Operand.tmp 0), _, _, _, _⟩) (v := .pointer (some ⟨G + 1 + i, 0, none⟩)) rfl (by kernel_rfl) (by kernel_rfl) (by kernel_rfl) (fun _ _ _ h => h) (Or.inl ⟨by rfl, fun W => by go_simp <;> with_reducible rfl⟩) ?_
        simp only [Act.put, List.setIfInBounds_toArray, List.set_cons_zero, List.set_cons_succ]
        refine wpAny_take (i := 1) (oi := ⟨some 39, Op.move (Operand.tmp 0), _, _, _, _⟩) (v := .pointer (some ⟨G + 1 + i, 0, none⟩)) rfl (by kernel_rfl) (by kernel_rfl) (by kernel_rfl) (fun _ _ _ h => h) (Or.inl ⟨by rfl, fun W => by go_simp <;> with_reducible rfl⟩) ?_
        simp only [Act.put, List.setIfInBounds_toArray, List.set_cons_zero, List.set_cons_succ]
        refine wpAny_take (i := 2) (oi := ⟨some 40, Op.nilCheck (Operand.tmp 39), _, _, _, _⟩) (v := .pointer (some ⟨G + 1 + i, 0, none⟩)) rfl (by kernel_rfl) (by kernel_rfl) (by kernel_rfl) (fun _ _ _ h => h) (Or.inl ⟨by rfl, fun W => by go_simp <;> with_reducible rfl⟩) ?_
        simp only [Act.put, List.setIfInBounds_toArray, List.set_cons_zero, List.set_cons_succ]
        refine wpAny_take (i := 3) (oi := ⟨some 41, Op.fieldAddr 111 (Operand.tmp 40) 3, _, _, _, _⟩) (v := .pointer (some ⟨G + 1 + i, 3, none⟩)) rfl (by kernel_rfl) (by kernel_rfl) (by kernel_rfl) (fun _ _ _ h => h) (Or.inl ⟨by rfl, fun W => by go_simp <;> with_reducible rfl⟩) ?_
        simp only [Act.put, List.setIfInBounds_toArray, List.set_cons_zero, List.set_cons_succ]
        refine wpAny_take (i := 5) (oi := ⟨some 43, Op.move (Operand.tmp 1), _, _, _, _⟩) (v := .slice (some ⟨G, 0, none⟩) n cap) rfl (by kernel_rfl) (by kernel_rfl) (by kernel_rfl) (fun _ _ _ h => h) (Or.inl ⟨by rfl, fun W => by go_simp <;> with_reducible rfl⟩) ?_
        simp only [Act.put, List.setIfInBounds_toArray, List.set_cons_zero, List.set_cons_succ]
        refine wpAny_take (i := 6) (oi := ⟨some 44, Op.move (Operand.tmp 5), _, _, _, _⟩) (v := .int .i64 z) rfl (by kernel_rfl) (by kernel_rfl) (by kernel_rfl) (fun _ _ _ h => h) (Or.inl ⟨by rfl, fun W => by go_simp <;> with_reducible rfl⟩) ?_
        simp only [Act.put, List.setIfInBounds_toArray, List.set_cons_zero, List.set_cons_succ]
        refine wpAnyD_take (S := fun w' => w'.cell? ⟨G + 1 + i, 3, none⟩ = some (.slice va j vc)) (i := 4) (oi := ⟨some 42, Op.load 97 (Operand.tmp 41), _, _, _, _⟩) (v := .slice va j vc) rfl (by kernel_rfl) (by kernel_rfl) (by kernel_rfl) (by kernel_rfl) (fun _ _ _ h => h) (Or.inl ⟨by rfl, fun W hW => by go_simp <;> with_reducible rfl⟩) cT ?_
        simp only [Act.put, List.setIfInBounds_toArray, List.set_cons_zero, List.set_cons_succ]
        clear cT
        refine anyD_one 7 rfl (by kernel_rfl) rfl ?_
        go_wp2_with (fail)
        refine (iat G n cap z w2 hz64 had hld hn).mono ?_
        rintro e w3 ⟨p, rfl, hp, b3⟩
        obtain ⟨s, rfl, hs1, hs2⟩ := hp.lt (Nat.lt_of_lt_of_le hld b3.size)
        have hs3 := hp_below hsd b3
        have hg3 := grown_trans hgd (bel_grown b3 (some (G + 1 + i)))
        have hk3 := hkd.below b3
        have hu3 := hud.below b3
        have hl3 : G + n < w3.heap.size := Nat.lt_of_lt_of_le hld b3.size
        clear hgd hsd hkd hud hld had b3
        (try dsimp only)
        refine ⟨fun _ => (Go.Joins.cell_of_block hs3 3).trans rfl, ?_⟩
        refine anyD_one 8 rfl (by kernel_rfl) rfl ?_
        go_wp2_with (fail)
        have b4 := bel_alloc w3 (.cells #[.pointer (some ⟨s, 0, none⟩)] 100)
        have hs4 := hp_below hs3 b4
        have hg4 := grown_trans hg3 (bel_grown b4 (some (G + 1 + i)))
        have hk4 := hk3.below b4
        have hu4 := hu3.below b4
        have hp4 := hp.below b4
        have hn4 := World.news_of_block (hp_new w3 (.cells #[.pointer (some ⟨s, 0, none⟩)] 100))
        have hbase : w.heap.size ≤ (w3.alloc (.cells #[.pointer (some ⟨s, 0, none⟩)] 100)).heap.size := hg4.size
        clear hs3 hg3 hk3 hu3 hp b4 hl3
        refine ⟨fun _ => (Go.Joins.cell_of_block hs4 3).trans rfl, ?_⟩
        refine anyD_one 9 rfl (by kernel_rfl) rfl ?_
        generalize (w3.alloc (.cells #[.pointer (some ⟨s, 0, none⟩)] 100)) = w4 at *
        obtain ⟨ps, hown, hps⟩ := hk4
        have hU := World.ownsRow.lt hown
        have hpl : ps.length = j := by have := hown.1; simp at this; omega
        have hown' : w4.ownsRow w.heap.size 100 1 (.slice va j vc) j ps := by
          have h := hown
          rw [List.length_take, Nat.min_eq_left (by omega)] at h
          exact h
        refine wp_append_lies _ _ _ 97 rfl w.heap.size 100 i0 (.pointer none) 1 8 Try.underlying97 hi0 hz0 hz1 hz2 rfl (by decide) (.slice va j vc) j ps rfl hown' ⟨w3.heap.size, 0, none⟩ 1 1 [.pointer (some ⟨s, 0, none⟩)] rfl rfl hn4 (by intro u hu; simp at hu; rcases hu with rfl; rfl) (by omega) (by unfold maxLen; omega) (by omega) hbase _ rfl ?_
        intro g8 cap8 w8 hown8 hgrow8 hat8 hlt8
        have hne8 : ∀ k, (Value.slice va j vc).ownBlock = some k → w.heap.size ≤ k := fun k hk => (hU k hk).1
        have hs8 := lk_grown hs4 hgrow8 (fun e => by have := hne8 _ e.symm; omega)
        have hg8 : w.grownBy w8 (some (G + 1 + i)) := lk_far hg4 hgrow8 (fun k hk => hne8 k hk)
        have hp8 := hp4.app hown' hgrow8
        have hu8 := hu4.app hown' hgrow8
        have hps8 : ∀ (q : Nat) (y : Int), (nd.kids.take (j + 1))[q]? = some y → ∃ p, (ps ++ [.pointer (some ⟨s, 0, none⟩)])[q]? = some p ∧ PtrTo w8 G n y p := by
          intro q y hy
          by_cases hq : q < j
          · rw [List.getElem?_take, if_pos (by omega)] at hy
            obtain ⟨p, h1, h2⟩ := hps q y (by rw [List.getElem?_take, if_pos hq]; exact hy)
            exact ⟨p, by rw [List.getElem?_append_left (by omega)]; exact h1, h2.app hown' hgrow8⟩
          · have hqj : q = j := by
              have := (List.getElem?_eq_some_iff.1 hy).1
              rw [List.length_take] at this
              omega
            subst hqj
            rw [List.getElem?_take, if_pos (by omega), HZJ.out] at hy
            cases hy
            exact ⟨_, by rw [List.getElem?_append_right (by omega), hpl, Nat.sub_self]; rfl, hp8⟩
        have hk8 : KidsP w8 G n w.heap.size (.slice (some ⟨g8, 0, none⟩) (j + 1) cap8) (nd.kids.take (j + 1)) := ⟨_, by rw [List.length_take, Nat.min_eq_left (by omega)]; exact hown8, hps8⟩
        clear hs4 hg4 hu4 hp4 hn4 hbase hown hps hU hown' hown8 hgrow8 hat8 hne8 hps8 hp8
        (try dsimp only)
        refine ⟨lk_nodep (by kernel_rfl), ?_⟩
        refine anyD_one 10 rfl (by kernel_rfl) rfl ?_
        go_wp2_with (fail)
        refine ⟨lk_nodep (by kernel_rfl), ?_⟩
        refine anyD_one 11 rfl (by kernel_rfl) rfl ?_
        go_wp2_with (fail)
        refine ⟨lk_nodep (by kernel_rfl), ?_⟩
        refine anyD_one 12 rfl (by kernel_rfl) rfl ?_
        have cT8 : w8.cell? ⟨G + 1 + i, 3, none⟩ = some (.slice va j vc) := (Go.Joins.cell_of_block hs8 3).trans rfl
        have fT8 := Go.Joins.unfrozen_of_block hs8 3
        have hs9 := Go.Joins.block_setCell (i := 3) hs8 (.slice (some ⟨g8, 0, none⟩) (j + 1) cap8)
        rw [lkA_put3] at hs9
        have hgs := grown_set w8 (G + 1 + i) 3 (.slice (some ⟨g8, 0, none⟩) (j + 1) cap8)
        have HS9 := Lib.hid hs9
        have HG9 := Lib.hid (grown_trans hg8 hgs)
        have HK9 := Lib.hid (hk8.grown hgs (by omega) (by omega))
        have HU9 := Lib.hid (hu8.grown hgs (by omega))
        clear hs8 hg8 hk8 hu8 hs9 hgs
        go_wp2_with (fail)
        refine ⟨by kernel_rfl, ?_⟩
        refine anyD_done (by kernel_rfl) ?_ _
        clear cT8 fT8
        go_wp2
        go_roundw
        case rel => exact ⟨j + 1, _, _, by omega, by go_num, HS9.out, HK9.out, HG9.out, HU9.out⟩
        case measure => simp [intOf]; omega
      · obtain rfl : j = nd.kids.length := by omega
        rw [List.take_length] at hkp
        have R := Lib.hid (show _ ∧ _ ∧ _ ∧ _ from ⟨hs1, hup1, hkp, hg1⟩)
        clear hs1 hup1 hkp hg1
        go_wp2
        refine bodyPost_ret (v := .tuple #[]) (by simp [results, Try.results98, go_sem]) rfl ⟨⟨_, rfl⟩, _, _, R.out⟩
end Go.Proofs.Ytjlgcnhjifdgfaa
