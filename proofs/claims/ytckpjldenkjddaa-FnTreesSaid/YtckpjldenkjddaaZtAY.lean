import Derived.OwnWalk
import Derived.Deep.AppendLies
import Derived.Deep.CutRange
import Derived.Deep.CutBlock
import Derived.Deep.QuietTactic
import Derived.BigQuiet
import Derived.LaidEqlPtr
import Derived.Test.YtckpjldenkjddaaZtAA
import Derived.Test.YtckpjldenkjddaaZtAN
import Derived.Test.YtckpjldenkjddaaZtAT
import Derived.Test.YtckpjldenkjddaaZtAU
import Derived.Test.YtckpjldenkjddaaZtAX
section
namespace Go.Proofs.Ytckpjldenkjddaa
open Go.ChangeShapes Go.WideShapes Go.ChangeAt Go.RowKit
set_option linter.unusedVariables false
set_option linter.unusedSimpArgs false
set_option maxRecDepth 8000

/-- A pointer to a block. -/
def ptr (g : Nat) : Value := .pointer (some ⟨g, 0, none⟩)
/-- A linked node's cells. -/
def lkA (i : Int) (nd up kv : Value) : Array Value := #[.int .i64 i, nd, up, kv]
/-- A stand-in. -/
def stand : Array Value := #[.int .i64 0, .pointer none, .pointer none, .slice none 0 0]
/-- The pointer p leads to the node z of n, or to a stand-in. -/
def PtrTo (w : World) (G n : Nat) (z : Int) (p : Value) : Prop :=
  ∃ s, p = .pointer (some ⟨s, 0, none⟩) ∧ ((nIn n z = true ∧ (s : Int) = G + z) ∨ (nIn n z = false ∧ G + n < s ∧ w.heap[s]? = some (.cells stand 95)))
/-- The row of pointers. -/
def AllP (w : World) (G n : Nat) : Prop := ∀ j, j < n → w.cell? ⟨G, j, none⟩ = some (.pointer (some ⟨G + 1 + j, 0, none⟩))
theorem PtrTo.grown {w w' : World} {G n : Nat} {z : Int} {p : Value} {row : Option Nat} (h : PtrTo w G n z p) (hg : w.grownBy w' row) (hr : ∀ b, row = some b → b ≤ G + n) : PtrTo w' G n z p := by
  obtain ⟨s, e, h⟩ := h
  refine ⟨s, e, h.imp id fun ⟨h1, h2, h3⟩ => ⟨h1, h2, ?_⟩⟩
  rw [hg.block s (hp_lt h3) (fun e => by have := hr s e.symm; omega)]
  exact h3
theorem PtrTo.below {w w' : World} {G n : Nat} {z : Int} {p : Value} (h : PtrTo w G n z p) (hb : Below w.heap.size w w') : PtrTo w' G n z p := by
  obtain ⟨s, e, h⟩ := h
  exact ⟨s, e, h.imp id fun ⟨h1, h2, h3⟩ => ⟨h1, h2, hp_below h3 hb⟩⟩
theorem PtrTo.lt {w : World} {G n : Nat} {z : Int} {p : Value} (h : PtrTo w G n z p) (hG : G + n < w.heap.size) : ∃ s, p = .pointer (some ⟨s, 0, none⟩) ∧ G < s ∧ s < w.heap.size := by
  obtain ⟨s, e, h⟩ := h
  rcases h with ⟨h1, h2⟩ | ⟨_, h2, h3⟩
  · have := nIn_iff.1 h1
    exact ⟨s, e, by omega, by omega⟩
  · exact ⟨s, e, by omega, hp_lt h3⟩
/-- Behind an append to a row of pointers. -/
theorem PtrTo.app {w w' : World} {G n : Nat} {z : Int} {p v : Value} {lo j : Nat} {ps : List Value} (h : PtrTo w G n z p) (hown : w.ownsRow lo 84 1 v j ps) (hg : w.grownBy w' v.ownBlock) : PtrTo w' G n z p := by
  obtain ⟨s, e, h⟩ := h
  refine ⟨s, e, h.imp id fun ⟨h1, h2, h3⟩ => ⟨h1, h2, ?_⟩⟩
  rw [hg.block s (hp_lt h3) (fun e => ?_)]
  · exact h3
  · rcases hown.2 with ⟨rfl, _⟩ | ⟨g, cap, cur, rfl, _, hgg, _⟩
    · simp [Value.ownBlock] at e
    · simp [Value.ownBlock] at e
      subst e
      rw [h3] at hgg
      simp at hgg
theorem AllP.below {w w' : World} {G n : Nat} (h : AllP w G n) (hG : G < w.heap.size) (hb : Below w.heap.size w w') : AllP w' G n := fun j hj => (hb.cell (p := ⟨G, j, none⟩) hG).trans (h j hj)
theorem AllP.grown {w w' : World} {G n : Nat} {row : Option Nat} (h : AllP w G n) (hG : G < w.heap.size) (hg : w.grownBy w' row) (hr : row ≠ some G) : AllP w' G n := fun j hj => (World.cell?_of_block (hg.block G hG (fun e => hr e.symm))).trans (h j hj)
theorem bel_grown {w w' : World} (hb : Below w.heap.size w w') (row : Option Nat) : w.grownBy w' row := ⟨hb.os, hb.tape, hb.output, hb.size, fun k hk _ => hb.block k hk⟩
theorem lk_grown {w w' : World} {g : Nat} {o : Obj} {row : Option Nat} (h : w.heap[g]? = some o) (hg : w.grownBy w' row) (hne : some g ≠ row) : w'.heap[g]? = some o := (hg.block g (hp_lt h) hne).trans h
theorem lk_far {w v v' : World} {row row' : Option Nat} (h : w.grownBy v row) (k : v.grownBy v' row') (hr : ∀ b, row' = some b → w.heap.size ≤ b) : w.grownBy v' row :=
  ⟨k.os.trans h.os, k.tape.trans h.tape, k.output.trans h.output, Nat.le_trans h.size k.size, fun i hi hne => (k.block i (Nat.lt_of_lt_of_le hi h.size) (fun e => by have := hr i e.symm; omega)).trans (h.block i hi hne)⟩
theorem bel_alloc (w : World) (o : Obj) : Below w.heap.size w (w.alloc o) := Go.Joins.below_alloc1 w o
theorem info_ptr : (Try.prog.info? 84).map (fun i => (i.zero, i.size, i.bytes)) = some (some (.pointer none), 1, 8) := by kernel_rfl

set_option maxHeartbeats 1000000 in
/-- linkedTree.at: a stand-in is new. -/
theorem iat_new (G n cap : Nat) (z : Int) (w : World) (hz : I64 z) (hall : AllP w G n) (hG : G + n < w.heap.size) (hn : n ≤ 1048576) :
    Calls Try.prog 64 #[.slice (some ⟨G, 0, none⟩) n cap, .int .i64 z] w fun e w' => ∃ p, e = .returned p ∧ PtrTo w' G n z p ∧ Below w.heap.size w w' ∧ (nIn n z = false → ∃ s, p = .pointer (some ⟨s, 0, none⟩) ∧ w.heap.size ≤ s) ∧ (nIn n z = true → w' = w) := by
  obtain ⟨hz0, hz1⟩ := hz
  by_cases hin : nIn n z = true
  · have h1 := nIn_iff.1 hin
    obtain ⟨k, rfl⟩ : ∃ k : Nat, z = (k : Int) + 1 := ⟨(z - 1).toNat, by omega⟩
    have c0 := hall k (by omega)
    have hlo : (0 : Int) ≤ (k : Int) := Int.natCast_nonneg _
    have hhi : (k : Int) < (n : Int) := by omega
    have hr : rnB ((k : Int) + 1) 1 n = true := hin
    have HIN := Lib.hid hin
    clear hall hin h1
    go_enter Try.func64, Try.ntmps64
    go_wp2_with (fail)
    refine (irng ((k : Int) + 1) 1 n _).mono ?_
    rintro e w1 ⟨rfl, rfl⟩
    rw [hr]
    dsimp only
    go_wp2
    go_ret
    exact ⟨_, rfl, ⟨G + 1 + k, rfl, Or.inl ⟨HIN.out, by omega⟩⟩, Below.refl _ _, fun h => by rw [HIN.out] at h; exact absurd h (by decide), fun _ => rfl⟩
  · have hin' : nIn n z = false := by simpa using hin
    have hr : rnB z 1 n = false := hin'
    have HIN := Lib.hid hin'
    clear hall hin hin'
    go_enter Try.func64, Try.ntmps64
    go_wp2_with (fail)
    refine (irng z 1 n _).mono ?_
    rintro e w1 ⟨rfl, rfl⟩
    rw [hr]
    dsimp only
    go_wp2
    go_ret
    exact ⟨_, rfl, ⟨w1.heap.size, rfl, Or.inr ⟨HIN.out, hG, hp_new w1 _⟩⟩, bel_alloc w1 _, fun _ => ⟨_, rfl, Nat.le_refl _⟩, fun h => by rw [HIN.out] at h; exact absurd h (by decide)⟩

/-- linkedTree.at -/
theorem iat (G n cap : Nat) (z : Int) (w : World) (hz : I64 z) (hall : AllP w G n) (hG : G + n < w.heap.size) (hn : n ≤ 1048576) :
    Calls Try.prog 64 #[.slice (some ⟨G, 0, none⟩) n cap, .int .i64 z] w fun e w' => ∃ p, e = .returned p ∧ PtrTo w' G n z p ∧ Below w.heap.size w w' :=
  (iat_new G n cap z w hz hall hG hn).mono fun e w' ⟨p, h1, h2, h3, _⟩ => ⟨p, h1, h2, h3⟩

/-- The pointers to the children, a row of the call's own. -/
def KidsP (w : World) (G n lo : Nat) (v : Value) (zs : List Int) : Prop :=
  ∃ ps : List Value, w.ownsRow lo 84 1 v zs.length ps ∧ ∀ (j : Nat) (z : Int), zs[j]? = some z → ∃ p, ps[j]? = some p ∧ PtrTo w G n z p
/-- The pointer to the parent. -/
def UpP (w : World) (G n : Nat) (z : Int) (v : Value) : Prop := if z = 0 then v = .pointer none else PtrTo w G n z v
theorem KidsP.grown {w w' : World} {G n lo : Nat} {v : Value} {zs : List Int} {b : Nat} (h : KidsP w G n lo v zs) (hg : w.grownBy w' (some b)) (hr : b ≤ G + n) (hlo : b < lo) : KidsP w' G n lo v zs := by
  obtain ⟨ps, h1, h2⟩ := h
  refine ⟨ps, World.ownsRow.kept h1 hg ?_, fun j z hz => ?_⟩
  · cases hv : v.ownBlock with
    | none => exact Or.inl rfl
    | some k => exact Or.inr fun e => by have := (World.ownsRow.lt h1 k hv).1; simp at e; omega
  · obtain ⟨p, h3, h4⟩ := h2 j z hz
    exact ⟨p, h3, h4.grown hg (fun x hx => by cases hx; exact hr)⟩
theorem KidsP.below {w w' : World} {G n lo : Nat} {v : Value} {zs : List Int} (h : KidsP w G n lo v zs) (hb : Below w.heap.size w w') : KidsP w' G n lo v zs := by
  obtain ⟨ps, h1, h2⟩ := h
  refine ⟨ps, ownsRow_from h1 (From.of_below hb), fun j z hz => ?_⟩
  obtain ⟨p, h3, h4⟩ := h2 j z hz
  exact ⟨p, h3, h4.below hb⟩
theorem UpP.grown {w w' : World} {G n : Nat} {z : Int} {v : Value} {b : Nat} (h : UpP w G n z v) (hg : w.grownBy w' (some b)) (hr : b ≤ G + n) : UpP w' G n z v := by
  unfold UpP at *
  split
  · rename_i e; rwa [if_pos e] at h
  · rename_i e; rw [if_neg e] at h; exact h.grown hg (fun x hx => by cases hx; exact hr)
theorem UpP.below {w w' : World} {G n : Nat} {z : Int} {v : Value} (h : UpP w G n z v) (hb : Below w.heap.size w w') : UpP w' G n z v := by
  unfold UpP at *
  split
  · rename_i e; rwa [if_pos e] at h
  · rename_i e; rw [if_neg e] at h; exact h.below hb
theorem UpP.app {w w' : World} {G n : Nat} {z : Int} {p v : Value} {lo j : Nat} {ps : List Value} (h : UpP w G n z p) (hown : w.ownsRow lo 84 1 v j ps) (hg : w.grownBy w' v.ownBlock) : UpP w' G n z p := by
  unfold UpP at *
  split
  · rename_i e; rwa [if_pos e] at h
  · rename_i e; rw [if_neg e] at h; exact h.app hown hg
theorem lk_nodep {b : Bool} {p : Prop} (hb : b = false) : b = true → p := fun h => by rw [hb] at h; cases h
/-- What is left of a round over the children: j are in. -/
def CoRel (G n i b o : Nat) (uz : Int) (upv : Value) (zs : List Int) (w : World) (jv : Value) (wr : World) : Prop :=
  ∃ (j : Nat) (va : Option Addr) (vc : Nat), j ≤ zs.length ∧ jv = .int .i64 j ∧ wr.heap[G + 1 + i]? = some (.cells (lkA (i + 1) (.pointer (some ⟨b, o, none⟩)) upv (.slice va j vc)) 95) ∧
    KidsP wr G n w.heap.size (.slice va j vc) (zs.take j) ∧ w.grownBy wr (some (G + 1 + i)) ∧ UpP wr G n uz upv
/-- What connect leaves. -/
def CoPost (G n i b o : Nat) (nd : PN) (w : World) (e : Ending) (w' : World) : Prop :=
  (∃ r, e = .returned r) ∧ ∃ upv kv, w'.heap[G + 1 + i]? = some (.cells (lkA (i + 1) (.pointer (some ⟨b, o, none⟩)) upv kv) 95) ∧ UpP w' G n nd.up upv ∧ KidsP w' G n w.heap.size kv nd.kids ∧ w.grownBy w' (some (G + 1 + i))
/-- Behind the parent. -/
def CuRel (G n i b o : Nat) (nd : PN) (w wx : World) : Prop :=
  ∃ upv, wx.heap[G + 1 + i]? = some (.cells (lkA (i + 1) (.pointer (some ⟨b, o, none⟩)) upv (.slice none 0 0)) 95) ∧ UpP wx G n nd.up upv ∧ w.grownBy wx (some (G + 1 + i))
theorem lkA_put2 (i : Int) (nd up kv v : Value) : (lkA i nd up kv).setIfInBounds 2 v = lkA i nd v kv := rfl
theorem lkA_put3 (i : Int) (nd up kv v : Value) : (lkA i nd up kv).setIfInBounds 3 v = lkA i nd up v := rfl
theorem grown_set (w : World) (g j : Nat) (v : Value) : w.grownBy (w.setCell ⟨g, j, none⟩ v) (some g) := ⟨rfl, rfl, rfl, by simp, fun k _ hk => Below.heap_setCell w ⟨g, j, none⟩ v k (fun e => hk (by simp [e]))⟩
theorem grown_trans {a b c : World} {row : Option Nat} (h : a.grownBy b row) (k : b.grownBy c row) : a.grownBy c row :=
  ⟨k.os.trans h.os, k.tape.trans h.tape, k.output.trans h.output, Nat.le_trans h.size k.size, fun i hi hne => (k.block i (Nat.lt_of_lt_of_le hi h.size) hne).trans (h.block i hi hne)⟩
set_option maxHeartbeats 2000000 in
/-- linkedNode.connect -/
theorem iconnect (G n cap i b o : Nat) (nd : PN) (w : World) (hok : nd.ok) (hk : nd.kids.length ≤ 1048576) (hi : i < n) (hn : n ≤ 1048576) (hall : AllP w G n) (hG : G + n < w.heap.size) (w0 : World) (hnd : NodeAt w0 b o nd) (hw0 : Below w0.heap.size w0 w) (hG0 : w0.heap.size ≤ G)
    (hs : w.heap[G + 1 + i]? = some (.cells (lkA (i + 1) (.pointer (some ⟨b, o, none⟩)) (.pointer none) (.slice none 0 0)) 95)) :
    Calls Try.prog 107 #[.pointer (some ⟨G + 1 + i, 0, none⟩), .slice (some ⟨G, 0, none⟩) n cap] w (CoPost G n i b o nd w) := by
  obtain ⟨i0, hi0, hz0, hz1, hz2⟩ := info_parts info_ptr
  obtain ⟨kv, tv, hrg, ⟨ka, kc, rfl, hki⟩, htt⟩ := hnd
  have hb : b < w0.heap.size := World.block_lt_of_cell? w0 _ (hrg 0 _ nL_up)
  have c0 : w.cell? ⟨b, o, none⟩ = some (.int .i64 nd.up) := rg_below hrg hw0 0 _ nL_up
  have hki' : ∀ wr, w.grownBy wr (some (G + 1 + i)) → Ints wr ka nd.kids.length nd.kids := fun wr hg => hki.below ((hw0.grown hg hw0.size (fun k hk => by cases hk; omega)).mono (Nat.le_refl _))
  have hkc : ∀ wr, w.grownBy wr (some (G + 1 + i)) → wr.cell? ⟨b, o + 1, none⟩ = some (.slice ka nd.kids.length kc) := fun wr hg => rg_below hrg (hw0.grown hg hw0.size (fun k hk => by cases hk; omega)) 1 _ nL_kids
  have c1 : w.cell? ⟨G + 1 + i, 1, none⟩ = some (.pointer (some ⟨b, o, none⟩)) := (Go.Joins.cell_of_block hs 1).trans rfl
  have HKC := Lib.hid hkc
  have HS := Lib.hid hs
  have HALL := Lib.hid hall
  have HKI := Lib.hid hki'
  have HOK := Lib.hid hok
  have hup : -9223372036854775808 ≤ nd.up ∧ nd.up ≤ 9223372036854775807 := hok.1
  clear hrg hs hall hki hki' hkc htt hok hw0
  go_enter Try.func107, Try.ntmps107
  go_upto_if 13 with (fail)
  go_cut [] from 13 to 25 (fun wx => CuRel G n i b o nd w wx)
  case first =>
    by_cases h0 : nd.up = 0
    · go_wp2_with (fail)
      go_meet
      case rel => exact ⟨_, HS.out, by unfold UpP; rw [if_pos h0], ⟨rfl, rfl, rfl, Nat.le_refl _, fun _ _ _ => rfl⟩⟩
    · go_wp2_with (fail)
      refine (iat G n cap nd.up w hup HALL.out hG hn).mono ?_
      rintro e w1 ⟨p, rfl, hp, b1⟩
      obtain ⟨s, rfl, hs1, hs2⟩ := hp.lt (Nat.lt_of_lt_of_le hG b1.size)
      have H1 := hp_below HS.out b1
      have z2 : w1.cell? ⟨G + 1 + i, 2, none⟩ = some (.pointer none) := (Go.Joins.cell_of_block H1 2).trans rfl
      have F2 := Go.Joins.unfrozen_of_block H1 2
      have H2 := Go.Joins.block_setCell (i := 2) H1 (.pointer (some ⟨s, 0, none⟩))
      rw [lkA_put2] at H2
      have g2 := grown_trans (bel_grown b1 (some (G + 1 + i))) (grown_set w1 (G + 1 + i) 2 (.pointer (some ⟨s, 0, none⟩)))
      have p2 := hp.grown (grown_set w1 (G + 1 + i) 2 (.pointer (some ⟨s, 0, none⟩))) (fun x hx => by cases hx; omega)
      have HH2 := Lib.hid H2
      have HG2 := Lib.hid g2
      have HP2 := Lib.hid p2
      clear H1 H2 g2 p2 hp b1
      (try dsimp only)
      go_wp2_with (fail)
      go_meet
      case rel => exact ⟨_, HH2.out, by unfold UpP; rw [if_neg h0]; exact HP2.out, HG2.out⟩
  case rest =>
    obtain ⟨upv, hs', hup', hg'⟩ := hcut
    have c1' : wc.cell? ⟨G + 1 + i, 1, none⟩ = some (.pointer (some ⟨b, o, none⟩)) := (Go.Joins.cell_of_block hs' 1).trans rfl
    have c2' := HKC.out wc hg'
    have HS' := Lib.hid hs'
    have HUP' := Lib.hid hup'
    have HG' := Lib.hid hg'
    clear c0 c1 hs' hup' hg'
    (try dsimp only)
    go_wp2_with (fail)
    go_loopw [5, 34] (fun _ jv wr => CoRel G n i b o nd.up upv nd.kids w jv wr) (fun _ j _ => nd.kids.length - (intOf j).toNat)
    case atStart => exact ⟨0, none, 0, Nat.zero_le _, rfl, HS'.out, ⟨[], World.ownsRow_nil _ _ _ _, fun j z h => by simp at h⟩, HG'.out, HUP'.out⟩
    case round =>
      obtain ⟨j, va, vc, hj, rfl, hs1, hkp, hg1, hup1⟩ := hrel
      clear c1' c2'
      by_cases hlt : j < nd.kids.length
      · obtain ⟨kb, koff, rfl, hkb, hkcell⟩ := (HKI.out wr hg1).look hlt
        have hlo : (0 : Int) ≤ (j : Int) := Int.natCast_nonneg _
        have hhi : (j : Int) < (nd.kids.length : Int) := by omega
        have hzj : nd.kids[j]? = some (nd.kids.getD j 0) := by rw [List.getD_eq_getElem?_getD, List.getElem?_eq_getElem hlt]; rfl
        have hz64 : I64 (nd.kids.getD j 0) := HOK.out.2.1 _ (List.mem_of_getElem? hzj)
        have HZJ := Lib.hid hzj
        have HKP := Lib.hid hkp
        have HG1 := Lib.hid hg1
        have HUP1 := Lib.hid hup1
        have HS1 := Lib.hid hs1
        have hGw : G + n < wr.heap.size := Nat.lt_of_lt_of_le hG hg1.size
        clear hzj hkp hg1 hup1 hs1
        generalize nd.kids.getD j 0 = z at *
        go_wp2_with (fail)
        have hgd : w.grownBy wr.drew (some (G + 1 + i)) := ⟨HG1.out.os, HG1.out.tape, HG1.out.output, HG1.out.size, HG1.out.block⟩
        have hsd : wr.drew.heap[G + 1 + i]? = _ := HS1.out
        have hkd : KidsP wr.drew G n w.heap.size (.slice va j vc) (nd.kids.take j) := HKP.out
        have hud : UpP wr.drew G n nd.up upv := HUP1.out
        have hld : G + n < wr.drew.heap.size := hGw
        have had : AllP wr.drew G n := HALL.out.grown (by omega) hgd (by simp; omega)
        have cT : wr.drew.cell? ⟨G + 1 + i, 3, none⟩ = some (.slice va j vc) := (Go.Joins.cell_of_block hsd 3).trans rfl
        clear HKP HG1 HUP1 HS1 hGw
        refine wp_region_any (by kernel_rfl) ?_
        change wpAny _ _ _ _ 13 (Array.replicate 13 false) _ wr.drew
        generalize wr.drew = w2 at *
        refine wpAny_take (i := 0) (oi := ⟨some 38, Op.move (Operand.tmp 0), _, _, _, _⟩) (v := .pointer (some ⟨G + 1 + i, 0, none⟩)) rfl (by kernel_rfl) (by kernel_rfl) (by kernel_rfl) (fun _ _ _ h => h) (Or.inl ⟨by rfl, fun W => by go_simp <;> with_reducible rfl⟩) ?_
        simp only [Act.put, List.setIfInBounds_toArray, List.set_cons_zero, List.set_cons_succ]
        refine wpAny_take (i := 1) (oi := ⟨some 39, Op.move (Operand.tmp 0), _, _, _, _⟩) (v := .pointer (some ⟨G + 1 + i, 0, none⟩)) rfl (by kernel_rfl) (by kernel_rfl) (by kernel_rfl) (fun _ _ _ h => h) (Or.inl ⟨by rfl, fun W => by go_simp <;> with_reducible rfl⟩) ?_
        simp only [Act.put, List.setIfInBounds_toArray, List.set_cons_zero, List.set_cons_succ]
        refine wpAny_take (i := 2) (oi := ⟨some 40, Op.nilCheck (Operand.tmp 39), _, _, _, _⟩) (v := .pointer (some ⟨G + 1 + i, 0, none⟩)) rfl (by kernel_rfl) (by kernel_rfl) (by kernel_rfl) (fun _ _ _ h => h) (Or.inl ⟨by rfl, fun W => by go_simp <;> with_reducible rfl⟩) ?_
        simp only [Act.put, List.setIfInBounds_toArray, List.set_cons_zero, List.set_cons_succ]
        refine wpAny_take (i := 3) (oi := ⟨some 41, Op.fieldAddr 95 (Operand.tmp 40) 3, _, _, _, _⟩) (v := .pointer (some ⟨G + 1 + i, 3, none⟩)) rfl (by kernel_rfl) (by kernel_rfl) (by kernel_rfl) (fun _ _ _ h => h) (Or.inl ⟨by rfl, fun W => by go_simp <;> with_reducible rfl⟩) ?_
        simp only [Act.put, List.setIfInBounds_toArray, List.set_cons_zero, List.set_cons_succ]
        refine wpAny_take (i := 5) (oi := ⟨some 43, Op.move (Operand.tmp 1), _, _, _, _⟩) (v := .slice (some ⟨G, 0, none⟩) n cap) rfl (by kernel_rfl) (by kernel_rfl) (by kernel_rfl) (fun _ _ _ h => h) (Or.inl ⟨by rfl, fun W => by go_simp <;> with_reducible rfl⟩) ?_
        simp only [Act.put, List.setIfInBounds_toArray, List.set_cons_zero, List.set_cons_succ]
        refine wpAny_take (i := 6) (oi := ⟨some 44, Op.move (Operand.tmp 5), _, _, _, _⟩) (v := .int .i64 z) rfl (by kernel_rfl) (by kernel_rfl) (by kernel_rfl) (fun _ _ _ h => h) (Or.inl ⟨by rfl, fun W => by go_simp <;> with_reducible rfl⟩) ?_
        simp only [Act.put, List.setIfInBounds_toArray, List.set_cons_zero, List.set_cons_succ]
        refine wpAnyD_take (S := fun w' => w'.cell? ⟨G + 1 + i, 3, none⟩ = some (.slice va j vc)) (i := 4) (oi := ⟨some 42, Op.load 81 (Operand.tmp 41), _, _, _, _⟩) (v := .slice va j vc) rfl (by kernel_rfl) (by kernel_rfl) (by kernel_rfl) (by kernel_rfl) (fun _ _ _ h => h) (Or.inl ⟨by rfl, fun W hW => by go_simp <;> with_reducible rfl⟩) cT ?_
        simp only [Act.put, List.setIfInBounds_toArray, List.set_cons_zero, List.set_cons_succ]
        clear cT
        refine anyD_one 7 rfl (by kernel_rfl) rfl ?_
        go_wp2_with (fail)
        refine (iat G n cap z w2 hz64 had hld hn).mono ?_
        rintro e w3 ⟨p, rfl, hp, b3⟩
        obtain ⟨s, rfl, hs1, hs2⟩ := hp.lt (Nat.lt_of_lt_of_le hld b3.size)
        have hs3 := hp_below hsd b3
        have hg3 := grown_trans hgd (bel_grown b3 (some (G + 1 + i)))
        have hk3 := hkd.below b3
        have hu3 := hud.below b3
        have hl3 : G + n < w3.heap.size := Nat.lt_of_lt_of_le hld b3.size
        clear hgd hsd hkd hud hld had b3
        (try dsimp only)
        refine ⟨fun _ => (Go.Joins.cell_of_block hs3 3).trans rfl, ?_⟩
        refine anyD_one 8 rfl (by kernel_rfl) rfl ?_
        go_wp2_with (fail)
        have b4 := bel_alloc w3 (.cells #[.pointer (some ⟨s, 0, none⟩)] 84)
        have hs4 := hp_below hs3 b4
        have hg4 := grown_trans hg3 (bel_grown b4 (some (G + 1 + i)))
        have hk4 := hk3.below b4
        have hu4 := hu3.below b4
        have hp4 := hp.below b4
        have hn4 := World.news_of_block (hp_new w3 (.cells #[.pointer (some ⟨s, 0, none⟩)] 84))
        have hbase : w.heap.size ≤ (w3.alloc (.cells #[.pointer (some ⟨s, 0, none⟩)] 84)).heap.size := hg4.size
        clear hs3 hg3 hk3 hu3 hp b4 hl3
        refine ⟨fun _ => (Go.Joins.cell_of_block hs4 3).trans rfl, ?_⟩
        refine anyD_one 9 rfl (by kernel_rfl) rfl ?_
        generalize (w3.alloc (.cells #[.pointer (some ⟨s, 0, none⟩)] 84)) = w4 at *
        obtain ⟨ps, hown, hps⟩ := hk4
        have hU := World.ownsRow.lt hown
        have hpl : ps.length = j := by have := hown.1; simp at this; omega
        have hown' : w4.ownsRow w.heap.size 84 1 (.slice va j vc) j ps := by
          have h := hown
          rw [List.length_take, Nat.min_eq_left (by omega)] at h
          exact h
        refine wp_append_lies _ _ _ 81 rfl w.heap.size 84 i0 (.pointer none) 1 8 Try.underlying81 hi0 hz0 hz1 hz2 rfl (by decide) (.slice va j vc) j ps rfl hown' ⟨w3.heap.size, 0, none⟩ 1 1 [.pointer (some ⟨s, 0, none⟩)] rfl rfl hn4 (by intro u hu; simp at hu; rcases hu with rfl; rfl) (by omega) (by unfold maxLen; omega) (by omega) hbase _ rfl ?_
        intro g8 cap8 w8 hown8 hgrow8 hat8 hlt8
        have hne8 : ∀ k, (Value.slice va j vc).ownBlock = some k → w.heap.size ≤ k := fun k hk => (hU k hk).1
        have hs8 := lk_grown hs4 hgrow8 (fun e => by have := hne8 _ e.symm; omega)
        have hg8 : w.grownBy w8 (some (G + 1 + i)) := lk_far hg4 hgrow8 (fun k hk => hne8 k hk)
        have hp8 := hp4.app hown' hgrow8
        have hu8 := hu4.app hown' hgrow8
        have hps8 : ∀ (q : Nat) (y : Int), (nd.kids.take (j + 1))[q]? = some y → ∃ p, (ps ++ [.pointer (some ⟨s, 0, none⟩)])[q]? = some p ∧ PtrTo w8 G n y p := by
          intro q y hy
          by_cases hq : q < j
          · rw [List.getElem?_take, if_pos (by omega)] at hy
            obtain ⟨p, h1, h2⟩ := hps q y (by rw [List.getElem?_take, if_pos hq]; exact hy)
            exact ⟨p, by rw [List.getElem?_append_left (by omega)]; exact h1, h2.app hown' hgrow8⟩
          · have hqj : q = j := by
              have := (List.getElem?_eq_some_iff.1 hy).1
              rw [List.length_take] at this
              omega
            subst hqj
            rw [List.getElem?_take, if_pos (by omega), HZJ.out] at hy
            cases hy
            exact ⟨_, by rw [List.getElem?_append_right (by omega), hpl, Nat.sub_self]; rfl, hp8⟩
        have hk8 : KidsP w8 G n w.heap.size (.slice (some ⟨g8, 0, none⟩) (j + 1) cap8) (nd.kids.take (j + 1)) := ⟨_, by rw [List.length_take, Nat.min_eq_left (by omega)]; exact hown8, hps8⟩
        clear hs4 hg4 hu4 hp4 hn4 hbase hown hps hU hown' hown8 hgrow8 hat8 hne8 hps8 hp8
        (try dsimp only)
        refine ⟨lk_nodep (by kernel_rfl), ?_⟩
        refine anyD_one 10 rfl (by kernel_rfl) rfl ?_
        go_wp2_with (fail)
        refine ⟨lk_nodep (by kernel_rfl), ?_⟩
        refine anyD_one 11 rfl (by kernel_rfl) rfl ?_
        go_wp2_with (fail)
        refine ⟨lk_nodep (by kernel_rfl), ?_⟩
        refine anyD_one 12 rfl (by kernel_rfl) rfl ?_
        have cT8 : w8.cell? ⟨G + 1 + i, 3, none⟩ = some (.slice va j vc) := (Go.Joins.cell_of_block hs8 3).trans rfl
        have fT8 := Go.Joins.unfrozen_of_block hs8 3
        have hs9 := Go.Joins.block_setCell (i := 3) hs8 (.slice (some ⟨g8, 0, none⟩) (j + 1) cap8)
        rw [lkA_put3] at hs9
        have hgs := grown_set w8 (G + 1 + i) 3 (.slice (some ⟨g8, 0, none⟩) (j + 1) cap8)
        have HS9 := Lib.hid hs9
        have HG9 := Lib.hid (grown_trans hg8 hgs)
        have HK9 := Lib.hid (hk8.grown hgs (by omega) (by omega))
        have HU9 := Lib.hid (hu8.grown hgs (by omega))
        clear hs8 hg8 hk8 hu8 hs9 hgs
        go_wp2_with (fail)
        refine ⟨by kernel_rfl, ?_⟩
        refine anyD_done (by kernel_rfl) ?_ _
        clear cT8 fT8
        go_wp2
        go_roundw
        case rel => exact ⟨j + 1, _, _, by omega, by go_num, HS9.out, HK9.out, HG9.out, HU9.out⟩
        case measure => simp [intOf]; omega
      · obtain rfl : j = nd.kids.length := by omega
        rw [List.take_length] at hkp
        have R := Lib.hid (show _ ∧ _ ∧ _ ∧ _ from ⟨hs1, hup1, hkp, hg1⟩)
        clear hs1 hup1 hkp hg1
        go_wp2
        refine bodyPost_ret (v := .tuple #[]) (by simp [results, Try.results107, go_sem]) rfl ⟨⟨_, rfl⟩, _, _, R.out⟩
set_option linter.unusedVariables false
set_option linter.unusedSimpArgs false
set_option maxRecDepth 8000

/-- 'make', the world behind it written out. -/
theorem list_make_all {P : Program} (w : World) {ops : Array Oper} {rest : List Oper} {o : Oper} {a : Act} {Q : Exit → Act → World → Prop}
    (hg : o.guard = none) (l c : Operand) (t : TypeId) (hop : o.op = Op.makeSlice t l c) (e : TypeId) (i : TypeInfo) (z : Value) (h1 : P.underlying t = some (.slice e)) (h2 : P.info? e = some i) (h3 : i.zero = some z)
    (kl kc : IntKind) (L C : Int) (n : Nat) (hl : a.eval l = .int kl L) (hc : a.eval c = .int kc C) (hL : L = (n : Int)) (hC : C = (n : Int)) (b2 : i.bytes * n ≤ 281474976710656) (b3 : n ≤ maxLen)
    (hK : wpList P ops Q rest (a.put o.dst (.slice (some ⟨w.heap.size, 0, none⟩) n n)) (w.alloc (.cells (madeCells z.cells (n * i.size)) e))) : wpList P ops Q (o :: rest) a w := by
  refine wpList_plain hg fun K hK' => ?_
  have h63' : (n : Int) ≤ 9223372036854775807 := by
    have h := b3
    simp [maxLen] at h
    omega
  have hb' : (i.bytes : Int) * (n : Int) ≤ 281474976710656 := by
    have h : ((i.bytes * n : Nat) : Int) ≤ 281474976710656 := by omega
    rwa [Int.natCast_mul] at h
  have hr := run_make (P := P) w t e i z h1 h2 h3 kl kc n n (by omega) (Int.le_refl _) hb' h63'
  simp only [Int.toNat_natCast] at hr
  subst hL
  subst hC
  unfold Oper.wp
  simp [execOp, hop, hl, hc, hr, Result.andThen]
  exact hK' _ _ hK
/-- The row, k of n in. -/
def pL (G k n : Nat) : List Value := (List.range k).map (fun j => Value.pointer (some ⟨G + 1 + j, 0, none⟩)) ++ List.replicate (n - k) (.pointer none)
theorem pL_len {G k n : Nat} (h : k ≤ n) : (pL G k n).length = n := by simp [pL]; omega
theorem pL_set {G k n : Nat} (h : k < n) : (pL G k n).set k (.pointer (some ⟨G + 1 + k, 0, none⟩)) = pL G (k + 1) n := by
  unfold pL
  rw [List.set_append_right _ _ (by simp), List.length_map, List.length_range, Nat.sub_self, List.range_succ, List.map_append, List.append_assoc]
  congr 1
  obtain ⟨q, hq⟩ : ∃ q, n - k = q + 1 := ⟨n - k - 1, by omega⟩
  rw [hq, show n - (k + 1) = q by omega, List.replicate_succ]
  rfl
theorem pL_at {G n j : Nat} (h : j < n) : (pL G n n)[j]? = some (.pointer (some ⟨G + 1 + j, 0, none⟩)) := by
  unfold pL
  rw [List.getElem?_append_left (by simpa using h)]
  simp [h]
/-- What is known of a linked node that is not connected. -/
def raw (b off j : Nat) : Obj := .cells (lkA (j + 1) (.pointer (some ⟨b, off + j * 64, none⟩)) (.pointer none) (.slice none 0 0)) 95
/-- The linked nodes. -/
def Linked (w : World) (G b off : Nat) (ls : List (Int × List Int)) : Prop :=
  AllP w G ls.length ∧ G + ls.length < w.heap.size ∧ ∃ ups kvs : Nat → Value,
    (∀ (i : Nat) (l : Int × List Int), ls[i]? = some l → w.heap[G + 1 + i]? = some (.cells (lkA (i + 1) (.pointer (some ⟨b, off + i * 64, none⟩)) (ups i) (kvs i)) 95) ∧ UpP w G ls.length l.1 (ups i) ∧ KidsP w G ls.length (G + ls.length + 1) (kvs i) l.2) ∧
    (∀ (i j x : Nat), i < ls.length → j < ls.length → (kvs i).ownBlock = some x → (kvs j).ownBlock = some x → i = j)
theorem Linked.below {w w' : World} {G b off : Nat} {ls : List (Int × List Int)} (h : Linked w G b off ls) (hb : Below w.heap.size w w') : Linked w' G b off ls := by
  obtain ⟨h1, h2, ups, kvs, h3, h4⟩ := h
  refine ⟨h1.below (by omega) hb, Nat.lt_of_lt_of_le h2 hb.size, ups, kvs, fun i l hl => ?_, h4⟩
  obtain ⟨a, b, c⟩ := h3 i l hl
  exact ⟨hp_below a hb, b.below hb, c.below hb⟩
def linksOf (ns : List PN) : List (Int × List Int) := ns.map fun n => (n.up, n.kids)
def LoRel (G b off n : Nat) (u : World) (iv : Value) (wr : World) : Prop :=
  ∃ k : Nat, k ≤ n ∧ iv = .int .i64 k ∧ wr.heap.size = G + 1 + k ∧ wr.ownsRow G 84 1 (.slice (some ⟨G, 0, none⟩) n n) n (pL G k n) ∧ (∀ j, j < k → wr.heap[G + 1 + j]? = some (raw b off j)) ∧ Below G u wr
def LcRel (G b off : Nat) (ns : List PN) (u : World) (iv : Value) (wr : World) : Prop :=
  ∃ (k : Nat) (ups kvs : Nat → Value), k ≤ ns.length ∧ iv = .int .i64 k ∧ AllP wr G ns.length ∧ G + ns.length < wr.heap.size ∧
    (∀ (i : Nat) (n : PN), i < k → ns[i]? = some n → wr.heap[G + 1 + i]? = some (.cells (lkA (i + 1) (.pointer (some ⟨b, off + i * 64, none⟩)) (ups i) (kvs i)) 95) ∧ UpP wr G ns.length n.up (ups i) ∧ KidsP wr G ns.length (G + ns.length + 1) (kvs i) n.kids) ∧
    (∀ j, k ≤ j → j < ns.length → wr.heap[G + 1 + j]? = some (raw b off j)) ∧
    (∀ (i j x : Nat), i < k → j < k → (kvs i).ownBlock = some x → (kvs j).ownBlock = some x → i = j) ∧ Below G u wr
/-- What linkedOf leaves. -/
def LnPost (b off : Nat) (ns : List PN) (w : World) (e : Ending) (w' : World) : Prop :=
  e = .returned (.slice (some ⟨w.heap.size + 1, 0, none⟩) ns.length ns.length) ∧ Linked w' (w.heap.size + 1) b off (linksOf ns) ∧ Below w.heap.size w w'
set_option maxHeartbeats 4000000 in
theorem ilinkedof (a : Option Addr) (cap b off : Nat) (ns : List PN) (w : World) (hz : Nds w a ns) (hl : szS ns ≤ 1048576) (ha : ns = [] ∨ a = some ⟨b, off, none⟩) :
    Calls Try.prog 63 #[.agg #[.slice a ns.length cap]] w (LnPost b off ns w) := by
  obtain ⟨i0, hi0, hz0, hz1, hz2⟩ := info_parts info_ptr
  have hnl : ns.length ≤ 1048576 := by unfold szS at hl; omega
  have HL := Lib.hid hl
  obtain ⟨u, eu⟩ : ∃ u, u = w.alloc (.cells #[.slice a ns.length cap] 26) := ⟨_, rfl⟩
  obtain ⟨G, eG⟩ : ∃ G, G = w.heap.size + 1 := ⟨_, rfl⟩
  have su : u.heap.size = G := by rw [eu, eG]; simp
  obtain ⟨v, ev⟩ : ∃ v, v = u.alloc (.cells (madeCells (Value.pointer none).cells (ns.length * i0.size)) 84) := ⟨_, rfl⟩
  have sv : v.heap.size = G + 1 := by rw [ev]; simp [su]
  have hT := hp_new w (.cells #[.slice a ns.length cap] 26)
  have hBu : Below w.heap.size w u := by rw [eu]; exact bel_alloc _ _
  have hBv : Below G u v := by rw [← su, ev]; exact bel_alloc _ _
  have hrow : v.ownsRow G 84 1 (.slice (some ⟨G, 0, none⟩) ns.length ns.length) ns.length (pL G 0 ns.length) := by
    have h := World.ownsRow_lit (size := 1) (e := 84) u (madeCells (Value.pointer none).cells (ns.length * i0.size)) ns.length (base := G) (by omega) (by unfold maxLen; omega) (by rw [size_madeCells, hz1])
    rw [← ev, su, hz1, show (Value.pointer none).cells = #[Value.pointer none] from rfl, toList_madeCells_one, Nat.mul_one] at h
    simpa [pL] using h
  rw [← eu] at hT
  have hzu := hz.below hBu
  have HTU := Lib.hid hT
  have HZ := Lib.hid hzu
  have EU := Lib.hid eu
  have EV := Lib.hid ev
  have EG := Lib.hid eG
  have HA := Lib.hid ha
  have HROW := Lib.hid hrow
  have c0 : u.cell? ⟨w.heap.size, 0, none⟩ = some (.slice a ns.length cap) := (Go.Joins.cell_of_block hT 0).trans rfl
  have cv : v.cell? ⟨w.heap.size, 0, none⟩ = some (.slice a ns.length cap) := (hBv.cell (p := ⟨w.heap.size, 0, none⟩) (by show w.heap.size < G; omega)).trans c0
  have SU := Lib.hid su
  have SV := Lib.hid sv
  have HBV := Lib.hid hBv
  have HBU := Lib.hid hBu
  clear hz eu ev eG hT hrow su sv hBv hBu ha hl hzu
  go_enter Try.func63, Try.ntmps63
  go_wp2_with (first
    | (rw [← EU.out])
    | (at_make; refine list_make_all u rfl _ _ 82 rfl 84 i0 (.pointer none) Try.underlying82 hi0 hz0 .i64 .i64 _ _ ns.length rfl rfl rfl rfl (by rw [hz2]; omega) (by unfold maxLen; omega) ?_; rw [← EV.out, SU.out])
    | fail)
  go_loopw [4, 14] (fun _ iv wr => LoRel G b off ns.length u iv wr) (fun _ i _ => ns.length - (intOf i).toNat)
  case atStart => exact ⟨0, Nat.zero_le _, rfl, SV.out, HROW.out, fun j hj => absurd hj (Nat.not_lt_zero _), HBV.out⟩
  case round =>
    obtain ⟨k, hk, rfl, hsz, ho, hraw, hb⟩ := hrel
    by_cases hlt : k < ns.length
    · rcases HA.out with h0 | rfl
      · rw [h0] at hlt; exact absurd hlt (Nat.not_lt_zero _)
      have hGs : w.heap.size < G := by rw [EG.out]; omega
      have cw : wr.cell? ⟨w.heap.size, 0, none⟩ = some (.slice (some ⟨b, off, none⟩) ns.length cap) := (hb.cell (p := ⟨w.heap.size, 0, none⟩) hGs).trans c0
      have hlo : (0 : Int) ≤ (k : Int) := Int.natCast_nonneg _
      have hhi : (k : Int) < (ns.length : Int) := by omega
      obtain ⟨v1, ev1⟩ : ∃ v1, v1 = wr.alloc (.cells #[.int .i64 ((k : Int) + 1), .pointer (some ⟨b, off + k * 64, none⟩), .pointer none, .slice none 0 0] 95) := ⟨_, rfl⟩
      have cw1 : v1.cell? ⟨w.heap.size, 0, none⟩ = some (.slice (some ⟨b, off, none⟩) ns.length cap) := by rw [ev1]; exact ((bel_alloc wr _).cell (p := ⟨w.heap.size, 0, none⟩) (by show w.heap.size < wr.heap.size; omega)).trans cw
      have h1 := hp_new wr (.cells #[.int .i64 ((k : Int) + 1), .pointer (some ⟨b, off + k * 64, none⟩), .pointer none, .slice none 0 0] 95)
      have ho1 := World.ownsRow.alloc ho (.cells #[.int .i64 ((k : Int) + 1), .pointer (some ⟨b, off + k * 64, none⟩), .pointer none, .slice none 0 0] 95)
      have hb1 := hb.alloc (by omega) (.cells #[.int .i64 ((k : Int) + 1), .pointer (some ⟨b, off + k * 64, none⟩), .pointer none, .slice none 0 0] 95)
      have hr1 : ∀ j, j < k + 1 → v1.heap[G + 1 + j]? = some (raw b off j) := fun j hj => by
        by_cases e : j = k
        · subst e; rw [ev1, ← hsz]; exact h1
        · rw [ev1]; exact hp_on (hraw j (by omega)) _
      rw [← ev1] at ho1 hb1
      have s1 : v1.heap.size = G + 1 + (k + 1) := by rw [ev1]; simp; omega
      have c2 : ∃ q, v1.cell? ⟨G, k, none⟩ = some q := by
        rw [World.ownsRow.cellAt ho1 k (by omega)]
        exact ⟨_, List.getElem?_eq_getElem (by rw [pL_len (by omega)]; omega)⟩
      obtain ⟨q2, c2⟩ := c2
      have f2 := World.ownsRow.frozenAt ho1 k
      have hst := (World.ownsRow.stored ho1 k (.pointer (some ⟨G + 1 + k, 0, none⟩))).1
      rw [pL_set hlt] at hst
      have hgs := grown_set v1 G k (.pointer (some ⟨G + 1 + k, 0, none⟩))
      have hr2 : ∀ j, j < k + 1 → (v1.setCell ⟨G, k, none⟩ (.pointer (some ⟨G + 1 + k, 0, none⟩))).heap[G + 1 + j]? = some (raw b off j) := fun j hj => hp_set (hr1 j hj) (by omega) _ _
      have hb2 := bl_set hb1 (g := G) k (Nat.le_refl _) (.pointer (some ⟨G + 1 + k, 0, none⟩))
      have HSZ := Lib.hid hsz
      have EV1 := Lib.hid ev1
      have HST := Lib.hid hst
      have HR2 := Lib.hid hr2
      have HB2 := Lib.hid hb2
      have S1 := Lib.hid s1
      clear ho hraw hb ev1 h1 ho1 hb1 hr1 hst hgs hr2 hb2 hsz s1 c0 cv
      go_wp2_with (first
        | (rw [← EV1.out])
        | fail)
      rw [HSZ.out]
      go_roundw
      case rel => exact ⟨k + 1, by omega, by go_num, by have := S1.out; simp; omega, HST.out, HR2.out, HB2.out⟩
      case measure => simp [intOf]; omega
    · obtain rfl : k = ns.length := by omega
      have hall : AllP wr G ns.length := fun j hj => by rw [World.ownsRow.cellAt ho j (by omega)]; exact pL_at hj
      have R0 := Lib.hid (show LcRel G b off ns u (.int .i64 ((0 : Nat) : Int)) wr from ⟨0, fun _ => undef, fun _ => undef, Nat.zero_le _, rfl, hall, by omega, fun i n h => absurd h (Nat.not_lt_zero _), fun j _ hj => hraw j hj, fun i j x h => absurd h (Nat.not_lt_zero _), hb⟩)
      clear ho hraw hb hall hsz c0 cv
      go_wp2_with (fail)
      go_loopw [6, 31] (fun _ iv wr => LcRel G b off ns u iv wr) (fun _ i _ => ns.length - (intOf i).toNat)
      case atStart => exact R0.out
      case round =>
        clear R0
        obtain ⟨k, ups, kvs, hk, rfl, hall, hG, hcon, hraw, hdis, hb⟩ := hrel
        by_cases hlt : k < ns.length
        · rcases HA.out with h0 | rfl
          · rw [h0] at hlt; exact absurd hlt (Nat.not_lt_zero _)
          have hlo : (0 : Int) ≤ (k : Int) := Int.natCast_nonneg _
          have hhi : (k : Int) < (ns.length : Int) := by omega
          have cp := hall k hlt
          obtain ⟨b', off', eab, hbl, hnd⟩ := HZ.out.look hlt
          cases eab
          have hnk : ns[k]? = some ns[k] := List.getElem?_eq_getElem hlt
          have hok := HZ.out.1 ns[k] (List.getElem_mem hlt)
          have hkl : ns[k].kids.length ≤ 1048576 := by
            have h1 := szK_le hlt
            have h2 := HL.out
            unfold szS at h2
            unfold szK at h1
            omega
          have hrk := hraw k (Nat.le_refl _) hlt
          have hbu : Below _ u _ := hb.mono (show u.heap.size ≤ G by rw [SU.out]; exact Nat.le_refl _)
          have R := Lib.hid (iconnect G ns.length ns.length k b (off + k * 64) ns[k] _ hok hkl hlt hnl hall hG u hnd hbu (by rw [SU.out]; exact Nat.le_refl _) hrk)
          have HALL := Lib.hid hall
          have HCON := Lib.hid hcon
          have HRAW := Lib.hid hraw
          have HDIS := Lib.hid hdis
          have HB := Lib.hid hb
          have HNK := Lib.hid hnk
          have HGG := Lib.hid hG
          clear hall hcon hraw hdis hb hnk hok hkl hrk hbu hnd hG
          go_wp2_with (fail)
          refine (R.out).mono ?_
          rintro e w2 ⟨⟨rv, rfl⟩, upv, kv, hs2, hu2, hk2, hg2⟩
          have hall2 := HALL.out.grown (by have := HGG.out; omega) hg2 (by simp; omega)
          have hG2 := Nat.lt_of_lt_of_le HGG.out hg2.size
          have hb2 := HB.out.grown hg2 (by have := HGG.out; omega) (fun x hx => by cases hx; omega)
          have hk2' : KidsP w2 G ns.length (G + ns.length + 1) kv ns[k].kids := by
            obtain ⟨ps, h1, h2⟩ := hk2
            exact ⟨ps, ownsRow_lower h1 (by have := HGG.out; omega), h2⟩
          have hkv : ∀ x, kv.ownBlock = some x → _ ≤ x := fun x hx => by
            obtain ⟨ps, h1, _⟩ := hk2
            exact (World.ownsRow.lt h1 x hx).1
          have hkvs : ∀ i x, i < k → (kvs i).ownBlock = some x → x < _ := fun i x hi hx => by
            obtain ⟨_, _, ps, h1, _⟩ := HCON.out i ns[i] hi (List.getElem?_eq_getElem (by omega))
            exact (World.ownsRow.lt h1 x hx).2
          have R2 := Lib.hid (show LcRel G b off ns u (.int .i64 ((k + 1 : Nat) : Int)) w2 from ⟨k + 1, fun i => if i = k then upv else ups i, fun i => if i = k then kv else kvs i, hlt, rfl, hall2, hG2, fun i n hi hn => by
              by_cases e : i = k
              · subst e
                rw [HNK.out] at hn
                cases hn
                simp only [if_true]
                exact ⟨hs2, hu2, hk2'⟩
              · simp only [e, if_false]
                obtain ⟨p1, p2, p3⟩ := HCON.out i n (by omega) hn
                exact ⟨lk_grown p1 hg2 (by simp; omega), p2.grown hg2 (by omega), p3.grown hg2 (by omega) (by omega)⟩, fun j h1 h2 => lk_grown (HRAW.out j (by omega) h2) hg2 (by simp; omega), fun i j x hi hj h1 h2 => by
              by_cases e1 : i = k <;> by_cases e2 : j = k
              · rw [e1, e2]
              · simp only [e1, if_true] at h1
                simp only [e2, if_false] at h2
                have := hkv x h1
                have := hkvs j x (by omega) h2
                omega
              · simp only [e1, if_false] at h1
                simp only [e2, if_true] at h2
                have := hkv x h2
                have := hkvs i x (by omega) h1
                omega
              · simp only [e1, if_false] at h1
                simp only [e2, if_false] at h2
                exact HDIS.out i j x (by omega) (by omega) h1 h2, hb2⟩)
          clear R hs2 hu2 hk2 hg2 hall2 hG2 hb2 hk2' hkv hkvs HALL HCON HRAW HDIS HB HNK HGG cp
          (try dsimp only)
          go_wp2
          go_roundw
          case rel => exact R2.out
          case measure => simp [intOf]; omega
        · obtain rfl : k = ns.length := by omega
          have hll : (linksOf ns).length = ns.length := by simp [linksOf]
          have R2 := Lib.hid (show Linked _ G b off (linksOf ns) from ⟨by rw [hll]; exact hall, by rw [hll]; exact hG, ups, kvs, fun i l hi => by
              rw [linksOf, List.getElem?_map] at hi
              cases hn : ns[i]? with
              | none => rw [hn] at hi; cases hi
              | some n =>
                rw [hn] at hi
                simp at hi
                subst hi
                rw [hll]
                exact hcon i n (List.getElem?_eq_some_iff.1 hn).1 hn, by rw [hll]; exact hdis⟩)
          have HB := Lib.hid (HBU.out.trans (hb.mono (show w.heap.size ≤ G by rw [EG.out]; omega)))
          clear hall hG hcon hraw hdis hb
          go_wp2
          go_ret
          refine ⟨by rw [← EG.out]; rfl, by rw [← EG.out]; exact R2.out, HB.out⟩
set_option linter.unusedVariables false
set_option linter.unusedSimpArgs false
set_option maxRecDepth 8000

theorem iexists (s : Nat) (i : Int) (a b c : Value) (w : World) (h : w.heap[s]? = some (.cells (lkA i a b c) 95)) :
    Calls Try.prog 117 #[.pointer (some ⟨s, 0, none⟩)] w fun e w' => e = .returned (.bool (!decide (i = 0))) ∧ w' = w := by
  have c0 : w.cell? ⟨s, 0, none⟩ = some (.int .i64 i) := (Go.Joins.cell_of_block h 0).trans rfl
  clear h
  by_cases h0 : i = 0
  · subst h0
    go_enter Try.func117, Try.ntmps117
    go_wp2
    go_ret
    exact ⟨rfl, rfl⟩
  · go_enter Try.func117, Try.ntmps117
    go_wp2
    go_ret
    exact ⟨by simp [h0], rfl⟩
/-- What a pointer to a node or a stand-in leads to. -/
theorem Linked.at {w : World} {G b off : Nat} {ls : List (Int × List Int)} (h : Linked w G b off ls) {z : Int} (hz : nIn ls.length z = true) :
    ∃ (l : Int × List Int) (k : Nat) (upv kv : Value), z = (k : Int) + 1 ∧ k < ls.length ∧ ls[k]? = some l ∧ w.heap[G + 1 + k]? = some (.cells (lkA (k + 1) (.pointer (some ⟨b, off + k * 64, none⟩)) upv kv) 95) ∧ UpP w G ls.length l.1 upv ∧ KidsP w G ls.length (G + ls.length + 1) kv l.2 := by
  have h1 := nIn_iff.1 hz
  obtain ⟨_, _, ups, kvs, h2, _⟩ := h
  have hk : (z - 1).toNat < ls.length := by omega
  obtain ⟨a, b, c⟩ := h2 (z - 1).toNat ls[(z - 1).toNat] (List.getElem?_eq_getElem hk)
  exact ⟨_, (z - 1).toNat, _, _, by omega, hk, List.getElem?_eq_getElem hk, a, b, c⟩
theorem linksOf_len (ns : List PN) : (linksOf ns).length = ns.length := by simp [linksOf]
theorem linksOf_up {ns : List PN} {k : Nat} {l : Int × List Int} (h : (linksOf ns)[k]? = some l) : upZ ns ((k : Int) + 1) = l.1 := by
  rw [linksOf, List.getElem?_map] at h
  cases hn : ns[k]? with
  | none => rw [hn] at h; cases h
  | some n =>
    rw [hn] at h
    simp at h
    unfold upZ ndAt
    rw [show ((k : Int) + 1 - 1).toNat = k by omega, hn, ← h]
    rfl
def DpRel (G : Nat) (ns : List PN) (z0 : Int) (w : World) (p d : Value) (wr : World) : Prop :=
  ∃ (k : Nat) (z : Int), k ≤ ns.length ∧ d = .int .i64 k ∧ wr = w ∧ dpV ns z0 = dpF ns (ns.length - k) z k ∧ ((p = .pointer none ∧ z = 0) ∨ (PtrTo w G ns.length z p ∧ (z = 0 → k = 0)))
set_option maxHeartbeats 2000000 in
/-- linkedTree.depthOf -/
theorem idepthof (G b off cap : Nat) (ns : List PN) (z0 : Int) (p0 : Value) (w : World) (hL : Linked w G b off (linksOf ns)) (hn : ns.length ≤ 1048576) (hp : PtrTo w G ns.length z0 p0) :
    Calls Try.prog 77 #[.slice (some ⟨G, 0, none⟩) ns.length cap, p0] w fun e w' => e = .returned (.int .i64 (dpV ns z0)) ∧ w' = w := by
  have HL := Lib.hid hL
  have HP := Lib.hid hp
  clear hL hp
  go_enter Try.func77, Try.ntmps77
  go_wp2_with (fail)
  go_loopw [1, 5] (DpRel G ns z0 w) (fun _ d _ => ns.length - (intOf d).toNat)
  case atStart => exact ⟨0, z0, Nat.zero_le _, rfl, rfl, rfl, Or.inr ⟨HP.out, fun _ => rfl⟩⟩
  case round =>
    obtain ⟨k, z, hk, rfl, rfl, hd, hpz⟩ := hrel
    have HD := Lib.hid hd
    have hlo : (0 : Int) ≤ (k : Int) := Int.natCast_nonneg _
    have hhi : (k : Int) ≤ (ns.length : Int) := by omega
    clear hd
    rcases hpz with ⟨rfl, rfl⟩ | ⟨hp, hz0⟩
    · have hv : dpV ns z0 = (k : Int) := by rw [HD.out, dpF_zero]
      have HV := Lib.hid hv
      clear hv
      go_wp2
      go_ret
      exact ⟨by rw [HV.out]; rfl, rfl⟩
    · obtain ⟨s, rfl, hs⟩ := hp
      rcases hs with ⟨hin, hsz⟩ | ⟨hout, _, hst⟩
      · obtain ⟨l, q, upv, kv, hzq, hq, hlq, hh, hup, _⟩ := HL.out.at (z := z) (by rw [linksOf_len]; exact hin)
        rw [linksOf_len] at hq hup
        have hs2 : s = G + 1 + q := by omega
        have hz1 : z ≠ 0 := by omega
        have hupz : upZ ns z = l.1 := by rw [hzq]; exact linksOf_up hlq
        have c2 := (Go.Joins.cell_of_block hh 2).trans (show _ = some upv from rfl)
        subst hs2
        have HH := Lib.hid hh
        have HUP := Lib.hid hup
        have HUZ := Lib.hid hupz
        have HIN := Lib.hid hin
        have HZQ := Lib.hid hzq
        have HZ1 := Lib.hid hz1
        clear hh hup hupz hin hzq hlq hsz hz1 hz0
        go_wp2_with (fail)
        refine (iexists _ _ _ _ _ _ HH.out).mono ?_
        rintro e w1 ⟨rfl, rfl⟩
        have hdec : (!decide ((q : Int) + 1 = 0)) = true := by simp; omega
        rw [hdec]
        dsimp only
        by_cases hkn : k = ns.length
        · have hgt : (ns.length : Int) < (k : Int) + 1 := by omega
          have hv : dpV ns z0 = 0 := by rw [HD.out, hkn, Nat.sub_self, dpF, if_neg HZ1.out]
          have HV := Lib.hid hv
          clear hv c2
          go_wp2
          go_ret
          exact ⟨by rw [HV.out]; rfl, rfl⟩
        · have hle : (k : Int) + 1 ≤ (ns.length : Int) := by omega
          go_wp2_with (fail)
          go_roundw
          case rel =>
            refine ⟨k + 1, l.1, by omega, by go_num, rfl, ?_, ?_⟩
            · rw [HD.out, show ns.length - k = ns.length - (k + 1) + 1 by omega, dpF, if_neg HZ1.out, if_pos HIN.out, HUZ.out]
            · have hu := HUP.out
              unfold UpP at hu
              by_cases e : l.1 = 0
              · rw [if_pos e] at hu
                exact Or.inl ⟨hu, e⟩
              · rw [if_neg e] at hu
                exact Or.inr ⟨hu, fun h => absurd h e⟩
          case measure => simp [intOf]; omega
      · have hv : dpV ns z0 = 0 := by
          rw [HD.out]
          by_cases e : z = 0
          · rw [e, dpF_zero, hz0 e]; rfl
          · cases ns.length - k with
            | zero => rw [dpF, if_neg e]
            | succ f => rw [dpF, if_neg e, if_neg (by rw [hout]; decide)]
        have HV := Lib.hid hv
        have HS := Lib.hid hst
        clear hv hst hz0
        go_wp2_with (fail)
        refine (iexists s 0 (.pointer none) (.pointer none) (.slice none 0 0) _ HS.out).mono ?_
        rintro e w1 ⟨rfl, rfl⟩
        dsimp only
        go_wp2
        go_ret
        exact ⟨by rw [HV.out]; rfl, rfl⟩
theorem unF_out {ns : List PN} {top z : Int} (h : nIn ns.length z = false) : ∀ f, unF ns top f z = false
  | 0 => rfl
  | f + 1 => by rw [unF, if_neg (by rw [h]; decide)]
theorem nIn_zero (n : Nat) : nIn n 0 = false := by simp [nIn]
/-- The block that a pointer leads to. -/
theorem PtrTo.obj {w : World} {G b off : Nat} {ls : List (Int × List Int)} (hL : Linked w G b off ls) {z : Int} {s : Nat} (h : PtrTo w G ls.length z (.pointer (some ⟨s, 0, none⟩))) : ∃ cs, w.heap[s]? = some (.cells cs 95) := by
  obtain ⟨s', e, h⟩ := h
  simp at e
  subst e
  rcases h with ⟨h1, h2⟩ | ⟨_, _, h3⟩
  · obtain ⟨l, q, upv, kv, hzq, hq, _, hh, _⟩ := hL.at h1
    have : s = G + 1 + q := by omega
    subst this
    exact ⟨_, hh⟩
  · exact ⟨_, h3⟩
theorem info_lk : (Try.prog.info? 95).map (fun i => (i.zero, i.size, i.bytes)) = some (some (.agg stand), 4, 48) := by kernel_rfl
theorem lk_eql (s t : Nat) (w : World) (cs ct : Array Value) (hs : w.heap[s]? = some (.cells cs 95)) (ht : w.heap[t]? = some (.cells ct 95)) :
    (binOp .eql 84 (.pointer (some ⟨s, 0, none⟩)) (.pointer (some ⟨t, 0, none⟩))).run Try.prog w = .ok (.bool (decide (s = t))) w := by
  obtain ⟨j, hj, _, hj1, _⟩ := info_parts info_lk
  by_cases e : s = t
  · subst e
    rw [run_eql_ptr_same w ⟨s, 0, none⟩ Try.underlying84 hj]; simp
  · rw [run_eql_ptr_other w (a := ⟨s, 0, none⟩) (b := ⟨t, 0, none⟩) Try.underlying84 hj (by omega) (fun h => by cases h; exact e rfl) hs ht]; simp [e]
def UnRel (G : Nat) (ns : List PN) (z0 top : Int) (w : World) (p i : Value) (wr : World) : Prop :=
  ∃ (k : Nat) (z : Int), k ≤ ns.length ∧ i = .int .i64 k ∧ wr = w ∧ unV ns z0 top = unF ns top (ns.length - k) z ∧ PtrTo w G ns.length z p
set_option maxHeartbeats 2000000 in
/-- linkedTree.isUnder -/
theorem iisunderP (G b off cap : Nat) (ns : List PN) (z0 top : Int) (p0 : Value) (st : Nat) (w : World) (hL : Linked w G b off (linksOf ns)) (hn : ns.length ≤ 1048576) (hp : PtrTo w G ns.length z0 p0) (ht : PtrTo w G ns.length top (.pointer (some ⟨st, 0, none⟩)))
    (hfr : nIn ns.length top = false → ∀ (k : Nat) (upv kv x : Value), w.heap[G + 1 + k]? = some (.cells (lkA (k + 1) x upv kv) 95) → k < ns.length → upv ≠ .pointer (some ⟨st, 0, none⟩)) :
    Calls Try.prog 84 #[.slice (some ⟨G, 0, none⟩) ns.length cap, p0, .pointer (some ⟨st, 0, none⟩)] w fun e w' => e = .returned (.bool (unV ns z0 top)) ∧ w' = w := by
  have HL := Lib.hid hL
  have HP := Lib.hid hp
  have HT := Lib.hid ht
  have HFR := Lib.hid hfr
  clear hL hp ht hfr
  go_enter Try.func84, Try.ntmps84
  go_wp2_with (fail)
  go_loopw [1, 9] (UnRel G ns z0 top w) (fun _ i _ => ns.length - (intOf i).toNat)
  case atStart => exact ⟨0, z0, Nat.zero_le _, rfl, rfl, rfl, HP.out⟩
  case round =>
    obtain ⟨k, z, hk, rfl, rfl, hd, hp⟩ := hrel
    have HD := Lib.hid hd
    have hlo : (0 : Int) ≤ (k : Int) := Int.natCast_nonneg _
    clear hd
    by_cases hlt : k < ns.length
    · have hhi : (k : Int) < (ns.length : Int) := by omega
      obtain ⟨f, hf⟩ : ∃ f, ns.length - k = f + 1 := ⟨ns.length - k - 1, by omega⟩
      obtain ⟨s, rfl, hs⟩ := hp
      rcases hs with ⟨hin, hsz⟩ | ⟨hout, _, hst⟩
      · obtain ⟨l, q, upv, kv, hzq, hq, hlq, hh, hup, _⟩ := HL.out.at (z := z) (by rw [linksOf_len]; exact hin)
        rw [linksOf_len] at hq hup
        have hs2 : s = G + 1 + q := by omega
        have hupz : upZ ns z = l.1 := by rw [hzq]; exact linksOf_up hlq
        have c2 := (Go.Joins.cell_of_block hh 2).trans (show _ = some upv from rfl)
        subst hs2
        have hstep : unV ns z0 top = if l.1 = top then nIn ns.length top else unF ns top f l.1 := by rw [HD.out, hf, unF, if_pos hin, hupz]
        have S := Lib.hid hstep
        have HF := Lib.hid hf
        unfold UpP at hup
        by_cases e : l.1 = 0
        · rw [if_pos e] at hup
          subst hup
          have hv : unV ns z0 top = false := by
            rw [S.out, e]
            split
            · rename_i h; rw [← h]; exact nIn_zero _
            · exact unF_out (nIn_zero _) _
          have HV := Lib.hid hv
          clear hv hstep hf hh hupz hin hzq hlq hsz
          go_wp2
          go_ret
          exact ⟨by rw [HV.out]; rfl, rfl⟩
        · rw [if_neg e] at hup
          have HUP := Lib.hid hup
          have hfr2 := fun h => HFR.out h q upv kv _ hh hq
          obtain ⟨s2, rfl, hs2⟩ := hup
          obtain ⟨cs1, ho1⟩ := PtrTo.obj (z := l.1) (s := s2) HL.out (by rw [linksOf_len]; exact ⟨s2, rfl, hs2⟩)
          obtain ⟨cs2, ho2⟩ := PtrTo.obj (z := top) (s := st) HL.out (by rw [linksOf_len]; exact HT.out)
          have heq := lk_eql s2 st _ cs1 cs2 ho1 ho2
          clear ho1 ho2
          by_cases he : s2 = st
          · subst he
            simp only [decide_true] at heq
            have hv : unV ns z0 top = true := by
              obtain ⟨s3, e3, h3⟩ := HT.out
              simp at e3
              subst e3
              rcases hs2 with ⟨h4, h5⟩ | ⟨h4, h5, _⟩
              · rcases h3 with ⟨h6, h7⟩ | ⟨_, h7, _⟩
                · rw [S.out, if_pos (by omega)]; exact h6
                · have := nIn_iff.1 h4; omega
              · rcases h3 with ⟨h6, h7⟩ | ⟨h6, _, _⟩
                · have := nIn_iff.1 h6; omega
                · exact absurd rfl (hfr2 h6)
            have HV := Lib.hid hv
            clear hv hstep hf hh hupz hin hzq hlq hsz hfr2 hs2
            go_wp2
            go_ret
            exact ⟨by rw [HV.out]; rfl, rfl⟩
          · have hne : unV ns z0 top = unF ns top f l.1 := by
              rw [S.out]
              split
              · rename_i h
                obtain ⟨s3, e3, h3⟩ := HT.out
                simp at e3
                subst e3
                rw [h] at hs2 ⊢
                rcases hs2 with ⟨h4, h5⟩ | ⟨h4, h5, h8⟩
                · rcases h3 with ⟨h6, h7⟩ | ⟨h6, _, _⟩
                  · exact absurd (by omega) he
                  · rw [h4] at h6; cases h6
                · rw [h4, unF_out h4]
              · rfl
            simp only [he, decide_false] at heq
            have HN := Lib.hid hne
            clear hne hstep hh hupz hin hzq hlq hsz hfr2 hs2 hf
            go_wp2
            go_roundw
            case rel => exact ⟨k + 1, l.1, by omega, by go_num, rfl, by rw [HN.out, show ns.length - (k + 1) = f by have := HF.out; omega], HUP.out⟩
            case measure => simp [intOf]; omega
      · have hv : unV ns z0 top = false := by rw [HD.out]; exact unF_out hout _
        have c2 : wr.cell? ⟨s, 2, none⟩ = some (.pointer none) := (Go.Joins.cell_of_block hst 2).trans rfl
        have HV := Lib.hid hv
        clear hv hst hf
        go_wp2
        go_ret
        exact ⟨by rw [HV.out]; rfl, rfl⟩
    · obtain rfl : k = ns.length := by omega
      have hv : unV ns z0 top = false := by rw [HD.out, Nat.sub_self]; rfl
      have HV := Lib.hid hv
      clear hv hp
      go_wp2
      go_ret
      exact ⟨by rw [HV.out]; rfl, rfl⟩
/-- Where the nodes lie. -/
theorem Nds.place {w : World} {a : Option Addr} {ns : List PN} (h : Nds w a ns) : ∃ b off, ns = [] ∨ a = some ⟨b, off, none⟩ := by
  rcases h.2 with h0 | ⟨b, off, ha, _⟩
  · exact ⟨0, 0, Or.inl h0⟩
  · exact ⟨b, off, Or.inr ha⟩
set_option maxHeartbeats 1000000 in
theorem idepthOf (a : Option Addr) (cap : Nat) (ns : List PN) (z : Int) (w : World) (hz : Nds w a ns) (hl : szS ns ≤ 1048576) (hz0 : I64 z) :
    Calls Try.prog 23 #[.agg #[.slice a ns.length cap], .int .i64 z] w fun e w' => e = .returned (.int .i64 (dpV ns z)) ∧ Below w.heap.size w w' := by
  obtain ⟨b, off, ha⟩ := hz.place
  have hnl : ns.length ≤ 1048576 := by unfold szS at hl; omega
  have B0 := bel_alloc w (.cells #[.slice a ns.length cap] 26)
  have HZ := Lib.hid (hz.below B0)
  have HB := Lib.hid B0
  have HI := Lib.hid hz0
  have HA := Lib.hid ha
  clear hz B0 hz0 ha
  go_enter Try.func23, Try.ntmps23
  go_wp2_with (fail)
  refine (ilinkedof a cap b off ns _ HZ.out hl HA.out).mono ?_
  rintro e w1 ⟨rfl, hL, b1⟩
  have B1 := HB.out.trans (b1.mono HB.out.size)
  generalize (w.alloc (.cells #[.slice a ns.length cap] 26)).heap.size + 1 = G at *
  have H1 := Lib.hid hL
  have HB1 := Lib.hid B1
  clear b1 B1 hL
  dsimp only
  go_wp2_with (fail)
  refine (iat G ns.length ns.length z w1 HI.out (by have := H1.out.1; rwa [linksOf_len] at this) (by have := H1.out.2.1; rwa [linksOf_len] at this) hnl).mono ?_
  rintro e w2 ⟨p, rfl, hp, b2⟩
  have H2 := Lib.hid (H1.out.below b2)
  have HP := Lib.hid hp
  have HB2 := Lib.hid (HB1.out.trans (b2.mono HB1.out.size))
  clear hp b2
  dsimp only
  go_wp2_with (fail)
  refine (idepthof G b off ns.length ns z p w2 H2.out hnl HP.out).mono ?_
  rintro e w3 ⟨rfl, rfl⟩
  go_wp2
  go_ret
  exact ⟨rfl, HB2.out⟩
set_option maxHeartbeats 1000000 in
theorem iisUnder (a : Option Addr) (cap : Nat) (ns : List PN) (z top : Int) (w : World) (hz : Nds w a ns) (hl : szS ns ≤ 1048576) (hz0 : I64 z) (ht0 : I64 top) :
    Calls Try.prog 22 #[.agg #[.slice a ns.length cap], .int .i64 z, .int .i64 top] w fun e w' => e = .returned (.bool (unV ns z top)) ∧ Below w.heap.size w w' := by
  obtain ⟨b, off, ha⟩ := hz.place
  have hnl : ns.length ≤ 1048576 := by unfold szS at hl; omega
  have B0 := bel_alloc w (.cells #[.slice a ns.length cap] 26)
  have HZ := Lib.hid (hz.below B0)
  have HB := Lib.hid B0
  have HI := Lib.hid hz0
  have HI2 := Lib.hid ht0
  have HA := Lib.hid ha
  clear hz B0 hz0 ht0 ha
  go_enter Try.func22, Try.ntmps22
  go_wp2_with (fail)
  refine (ilinkedof a cap b off ns _ HZ.out hl HA.out).mono ?_
  rintro e w1 ⟨rfl, hL, b1⟩
  have B1 := HB.out.trans (b1.mono HB.out.size)
  generalize (w.alloc (.cells #[.slice a ns.length cap] 26)).heap.size + 1 = G at *
  have H1 := Lib.hid hL
  have HB1 := Lib.hid B1
  clear b1 B1 hL
  dsimp only
  go_wp2_with (fail)
  refine (iat G ns.length ns.length z w1 HI.out (by have := H1.out.1; rwa [linksOf_len] at this) (by have := H1.out.2.1; rwa [linksOf_len] at this) hnl).mono ?_
  rintro e w2 ⟨p, rfl, hp, b2⟩
  have H2 := Lib.hid (H1.out.below b2)
  have HP := Lib.hid hp
  have HB2 := Lib.hid (HB1.out.trans (b2.mono HB1.out.size))
  clear hp b2
  dsimp only
  go_wp2_with (fail)
  refine (iat_new G ns.length ns.length top w2 HI2.out (by have := H2.out.1; rwa [linksOf_len] at this) (by have := H2.out.2.1; rwa [linksOf_len] at this) hnl).mono ?_
  rintro e w3 ⟨q, rfl, hq, b3, hnew, _⟩
  obtain ⟨st, rfl, hst⟩ := hq
  have hfr : nIn ns.length top = false → ∀ (k : Nat) (upv kv x : Value), w3.heap[G + 1 + k]? = some (.cells (lkA (k + 1) x upv kv) 95) → k < ns.length → upv ≠ .pointer (some ⟨st, 0, none⟩) := by
    intro hout k upv kv x hh hk e
    obtain ⟨s, es, hs⟩ := hnew hout
    simp at es
    subst es
    obtain ⟨hall, hG, ups, kvs, hn, _⟩ := H2.out
    rw [linksOf_len] at hG hn
    have hk' : k < (linksOf ns).length := by rw [linksOf_len]; exact hk
    obtain ⟨a1, a2, _⟩ := hn k (linksOf ns)[k] (List.getElem?_eq_getElem hk')
    have a3 := hp_below a1 b3
    rw [hh] at a3
    simp [lkA] at a3
    obtain ⟨_, a4, _⟩ := a3
    unfold UpP at a2
    split at a2
    · rw [a2] at a4; rw [a4] at e; cases e
    · obtain ⟨s', e', _, hlt⟩ := a2.lt hG
      rw [a4, e'] at e
      first
        | (simp at e; done)
        | (simp at e; omega)
  have H3 := Lib.hid (H2.out.below b3)
  have HP3 := Lib.hid (HP.out.below b3)
  have HQ := Lib.hid (show PtrTo w3 G ns.length top (.pointer (some ⟨st, 0, none⟩)) from ⟨st, rfl, hst⟩)
  have HB3 := Lib.hid (HB2.out.trans (b3.mono HB2.out.size))
  have HF := Lib.hid hfr
  clear hst b3 hnew hfr
  dsimp only
  go_wp2_with (fail)
  refine (iisunderP G b off ns.length ns z top p st w3 H3.out hnl HP3.out HQ.out HF.out).mono ?_
  rintro e w4 ⟨rfl, rfl⟩
  go_wp2
  go_ret
  exact ⟨rfl, HB3.out⟩
set_option linter.unusedVariables false
set_option linter.unusedSimpArgs false
set_option maxRecDepth 8000

theorem lk_neq (s t : Nat) (w : World) (cs ct : Array Value) (hs : w.heap[s]? = some (.cells cs 95)) (ht : w.heap[t]? = some (.cells ct 95)) :
    (binOp .neq 84 (.pointer (some ⟨s, 0, none⟩)) (.pointer (some ⟨t, 0, none⟩))).run Try.prog w = .ok (.bool (!decide (s = t))) w := by
  have h := lk_eql s t w cs ct hs ht
  unfold binOp at h ⊢
  simp only [Sem.run_bind] at h ⊢
  cases hq : (Op.equal 84 (.pointer (some ⟨s, 0, none⟩)) (.pointer (some ⟨t, 0, none⟩))).run Try.prog w with
  | ok b w' =>
    rw [hq] at h
    simp [Result.andThen, Sem.run_pure] at h ⊢
    exact ⟨by rw [h.1], h.2⟩
  | _ => rw [hq] at h; simp [Result.andThen] at h
theorem lk_neq_nil (t : Nat) (w : World) : (binOp .neq 84 (.pointer none) (.pointer (some ⟨t, 0, none⟩))).run Try.prog w = .ok (.bool true) w := by
  have h : ∀ d : Nat, (Op.equalIn (d + 1) 84 (.pointer none) (.pointer (some ⟨t, 0, none⟩))).run Try.prog w = .ok false w := fun d => by
    simp [Op.equalIn, run_underlying Try.underlying84]
  simp only [binOp]
  simp [Op.equal, Op.maxDepth, h 9999]
/-- A pointer leads to the node i just where its number is i + 1. -/
theorem PtrTo.node {w : World} {G n : Nat} {z : Int} {s i : Nat} (h : PtrTo w G n z (.pointer (some ⟨s, 0, none⟩))) (hi : i < n) : s = G + 1 + i ↔ z = (i : Int) + 1 := by
  obtain ⟨s', e, h⟩ := h
  simp at e
  subst e
  rcases h with ⟨h1, h2⟩ | ⟨h1, h2, _⟩
  · omega
  · constructor
    · intro; omega
    · intro e
      subst e
      have := nIn_no.1 h1
      omega
/-- The children's pointers, to be read. -/
def KidsAt (w : World) (G n : Nat) (va : Option Addr) (zs : List Int) : Prop :=
  ∀ j, j < zs.length → ∃ g s, va = some ⟨g, 0, none⟩ ∧ w.cell? ⟨g, j, none⟩ = some (.pointer (some ⟨s, 0, none⟩)) ∧ PtrTo w G n (zs.getD j 0) (.pointer (some ⟨s, 0, none⟩))
theorem KidsP.at {w : World} {G n lo : Nat} {v : Value} {zs : List Int} (h : KidsP w G n lo v zs) : ∃ va vc, v = .slice va zs.length vc ∧ KidsAt w G n va zs := by
  obtain ⟨ps, h1, h2⟩ := h
  rcases h1.2 with ⟨e1, e2⟩ | ⟨g, cap, cur, e1, _⟩
  · exact ⟨none, 0, by rw [e1, e2], fun j hj => by omega⟩
  · subst e1
    refine ⟨_, cap, rfl, fun j hj => ?_⟩
    have hz : zs[j]? = some (zs.getD j 0) := by rw [List.getD_eq_getElem?_getD, List.getElem?_eq_getElem hj]; rfl
    obtain ⟨p, h3, h4⟩ := h2 j _ hz
    obtain ⟨s, e, h5⟩ := h4
    subst e
    exact ⟨g, s, rfl, by rw [World.ownsRow.cellAt h1 j (by omega)]; exact h3, s, rfl, h5⟩
/-- The children of whatever a pointer leads to. -/
def kidsZ (ns : List PN) (z : Int) : List Int := if nIn ns.length z = true then (ndAt ns z).kids else []
theorem linksOf_kids {ns : List PN} {k : Nat} {l : Int × List Int} (h : (linksOf ns)[k]? = some l) : (ndAt ns ((k : Int) + 1)).kids = l.2 := by
  rw [linksOf, List.getElem?_map] at h
  cases hn : ns[k]? with
  | none => rw [hn] at h; cases h
  | some n =>
    rw [hn] at h
    simp at h
    unfold ndAt
    rw [show ((k : Int) + 1 - 1).toNat = k by omega, hn, ← h]
    rfl
theorem Linked.kids {w : World} {G b off : Nat} {ns : List PN} (hL : Linked w G b off (linksOf ns)) {z : Int} {s : Nat} (h : PtrTo w G ns.length z (.pointer (some ⟨s, 0, none⟩))) :
    ∃ va vc, w.cell? ⟨s, 3, none⟩ = some (.slice va (kidsZ ns z).length vc) ∧ KidsAt w G ns.length va (kidsZ ns z) := by
  obtain ⟨s', e, h⟩ := h
  simp at e
  subst e
  rcases h with ⟨h1, h2⟩ | ⟨h1, h2, h3⟩
  · obtain ⟨l, q, upv, kv, hzq, hq, hlq, hh, _, hk⟩ := hL.at (z := z) (by rw [linksOf_len]; exact h1)
    rw [linksOf_len] at hk
    have hs : s = G + 1 + q := by omega
    subst hs
    have e : kidsZ ns z = l.2 := by rw [kidsZ, if_pos h1, hzq, linksOf_kids hlq]
    obtain ⟨va, vc, ev, hka⟩ := hk.at
    rw [e]
    exact ⟨va, vc, by rw [← ev]; exact (Go.Joins.cell_of_block hh 3).trans rfl, hka⟩
  · have e : kidsZ ns z = [] := by rw [kidsZ, if_neg (by rw [h1]; decide)]
    rw [e]
    exact ⟨none, 0, (Go.Joins.cell_of_block h3 3).trans rfl, fun j hj => absurd hj (Nat.not_lt_zero _)⟩
def TmRel (zs : List Int) (x : Int) (w : World) (t j : Value) (wr : World) : Prop :=
  ∃ k : Nat, k ≤ zs.length ∧ j = .int .i64 k ∧ t = .int .i64 (cntZ (zs.take k) x : Nat) ∧ wr = w
set_option maxHeartbeats 2000000 in
/-- linkedNode.timesOf -/
theorem itimesof (G b off : Nat) (ns : List PN) (z : Int) (s i : Nat) (w : World) (hL : Linked w G b off (linksOf ns)) (hp : PtrTo w G ns.length z (.pointer (some ⟨s, 0, none⟩))) (hi : i < ns.length) (hk : (kidsZ ns z).length ≤ 1048576) :
    Calls Try.prog 116 #[.pointer (some ⟨s, 0, none⟩), .pointer (some ⟨G + 1 + i, 0, none⟩)] w fun e w' => e = .returned (.int .i64 (cntZ (kidsZ ns z) ((i : Int) + 1) : Nat)) ∧ w' = w := by
  obtain ⟨va, vc, c3, hka⟩ := hL.kids hp
  obtain ⟨c4, ho4⟩ := PtrTo.obj (z := (i : Int) + 1) (s := G + 1 + i) hL (by rw [linksOf_len]; exact ⟨_, rfl, Or.inl ⟨nIn_iff.2 (by omega), by omega⟩⟩)
  generalize kidsZ ns z = zs at *
  have HKA := Lib.hid hka
  have HL := Lib.hid hL
  have HO4 := Lib.hid ho4
  clear hka hp ho4 hL
  go_enter Try.func116, Try.ntmps116
  go_wp2_with (fail)
  go_loopw [5, 7, 13] (fun t _ j wr => TmRel zs ((i : Int) + 1) w t j wr) (fun _ _ j _ => zs.length - (intOf j).toNat)
  case atStart => exact ⟨0, Nat.zero_le _, rfl, by simp [cntZ], rfl⟩
  case round =>
    obtain ⟨k, hkz, rfl, rfl, rfl⟩ := hrel
    by_cases hlt : k < zs.length
    · obtain ⟨g, s', rfl, cp, hps⟩ := HKA.out k hlt
      obtain ⟨cs, ho⟩ := PtrTo.obj (z := zs.getD k 0) HL.out (by rw [linksOf_len]; exact hps)
      have heq := lk_eql s' (G + 1 + i) _ cs c4 ho HO4.out
      have hnode := hps.node hi
      have hct := cntZ_take (zs := zs) ((i : Int) + 1) hlt
      have hcl := cntZ_le (zs.take k) ((i : Int) + 1)
      have hcl2 : cntZ (zs.take k) ((i : Int) + 1) ≤ 1048576 := by rw [List.length_take] at hcl; omega
      have hlo : (0 : Int) ≤ (k : Int) := Int.natCast_nonneg _
      have hhi : (k : Int) < (zs.length : Int) := by omega
      have HCT := Lib.hid hct
      clear c3 ho hct hcl hps
      by_cases he : s' = G + 1 + i
      · have hz := hnode.1 he
        simp only [he, decide_true] at heq
        subst he
        have HN := Lib.hid hz
        clear hnode hz
        go_wp2
        go_roundw
        case rel => exact ⟨k + 1, by omega, by go_num, by rw [HCT.out, if_pos HN.out]; rfl, rfl⟩
        case measure => simp [intOf]; omega
      · have hz : ¬ zs.getD k 0 = (i : Int) + 1 := fun h => he (hnode.2 h)
        simp only [he, decide_false] at heq
        have HN := Lib.hid hz
        clear hnode hz
        go_wp2
        go_roundw
        case rel => exact ⟨k + 1, by omega, by go_num, by rw [HCT.out, if_neg HN.out]; rfl, rfl⟩
        case measure => simp [intOf]; omega
    · obtain rfl : k = zs.length := by omega
      rw [List.take_length]
      clear c3
      go_wp2
      go_ret
      exact ⟨rfl, rfl⟩
/-- Where the parent's pointer leads. -/
theorem Linked.upOf {w : World} {G b off : Nat} {ns : List PN} (hL : Linked w G b off (linksOf ns)) {z : Int} {s : Nat} (h : PtrTo w G ns.length z (.pointer (some ⟨s, 0, none⟩))) :
    ∃ upv, w.cell? ⟨s, 2, none⟩ = some upv ∧ if nIn ns.length z = true then UpP w G ns.length (upZ ns z) upv else upv = .pointer none := by
  obtain ⟨s', e, h⟩ := h
  simp at e
  subst e
  rcases h with ⟨h1, h2⟩ | ⟨h1, h2, h3⟩
  · obtain ⟨l, q, upv, kv, hzq, hq, hlq, hh, hu, _⟩ := hL.at (z := z) (by rw [linksOf_len]; exact h1)
    rw [linksOf_len] at hu
    have hs : s = G + 1 + q := by omega
    subst hs
    refine ⟨upv, (Go.Joins.cell_of_block hh 2).trans rfl, ?_⟩
    rw [if_pos h1, hzq, linksOf_up hlq]
    exact hu
  · exact ⟨.pointer none, (Go.Joins.cell_of_block h3 2).trans rfl, by rw [if_neg (by rw [h1]; decide)]⟩
def LkRel (ns : List PN) (i : Nat) (n : PN) (w : World) (j : Value) (wr : World) : Prop :=
  ∃ k : Nat, k ≤ n.kids.length ∧ j = .int .i64 k ∧ wr = w ∧ ∀ q, q < k → kidOk ns i (n.kids.getD q 0) = true
def linkB (ns : List PN) (i : Nat) (n : PN) : Bool := kidsOk ns i n && upOk ns i n
set_option maxHeartbeats 4000000 in
/-- linkedNode.linksOk -/
theorem ilinksok (G b off : Nat) (ns : List PN) (i : Nat) (w : World) (hL : Linked w G b off (linksOf ns)) (hi : i < ns.length) (hk : ∀ n ∈ ns, n.kids.length ≤ 1048576) :
    Calls Try.prog 74 #[.pointer (some ⟨G + 1 + i, 0, none⟩)] w fun e w' => e = .returned (.bool (linkB ns i ns[i])) ∧ w' = w := by
  have hin : nIn ns.length ((i : Int) + 1) = true := nIn_iff.2 (by omega)
  have hpi : PtrTo w G ns.length ((i : Int) + 1) (.pointer (some ⟨G + 1 + i, 0, none⟩)) := ⟨_, rfl, Or.inl ⟨hin, by omega⟩⟩
  obtain ⟨c4, ho4⟩ := PtrTo.obj (z := (i : Int) + 1) (s := G + 1 + i) hL (by rw [linksOf_len]; exact hpi)
  have hnd : ndAt ns ((i : Int) + 1) = ns[i] := by
    rw [ndAt_get (by omega) (by omega)]
    congr 1
    omega
  obtain ⟨va, vc, c3, hka⟩ := hL.kids hpi
  obtain ⟨upv, c2, hup⟩ := hL.upOf hpi
  rw [if_pos hin] at hup
  have ekz : kidsZ ns ((i : Int) + 1) = ns[i].kids := by rw [kidsZ, if_pos hin, hnd]
  have euz : upZ ns ((i : Int) + 1) = ns[i].up := by rw [upZ, hnd]
  rw [ekz] at c3 hka
  rw [euz] at hup
  have hkl : ns[i].kids.length ≤ 1048576 := hk _ (List.getElem_mem hi)
  have hkz : ∀ z, (kidsZ ns z).length ≤ 1048576 := fun z => by
    unfold kidsZ
    split
    · rename_i h
      have h1 := nIn_iff.1 h
      rw [ndAt_get h1 (by omega)]
      exact hk _ (List.getElem_mem _)
    · simp
  have HKA := Lib.hid hka
  have HL := Lib.hid hL
  have HO4 := Lib.hid ho4
  have HUP := Lib.hid hup
  have HKZ := Lib.hid hkz
  clear hka hL ho4 hup hpi hin hnd ekz euz hk hkz
  generalize hn : ns[i] = n at *
  clear hn
  go_enter Try.func74, Try.ntmps74
  go_wp2_with (fail)
  go_loopw [4, 10] (fun _ j wr => LkRel ns i n w j wr) (fun _ j _ => n.kids.length - (intOf j).toNat)
  case atStart => exact ⟨0, Nat.zero_le _, rfl, rfl, fun q hq => absurd hq (Nat.not_lt_zero _)⟩
  case round =>
    obtain ⟨k, hkz, rfl, rfl, hgood⟩ := hrel
    by_cases hlt : k < n.kids.length
    · obtain ⟨g, s', rfl, cp, hps⟩ := HKA.out k hlt
      have hlo : (0 : Int) ≤ (k : Int) := Int.natCast_nonneg _
      have hhi : (k : Int) < (n.kids.length : Int) := by omega
      obtain ⟨upk, cu, hupk⟩ := HL.out.upOf hps
      have hbad := kids_bad (ns := ns) (i := i) hlt
      have hko : kidOk ns i (n.kids.getD k 0) = (nIn ns.length (n.kids.getD k 0) && upZ ns (n.kids.getD k 0) == (i : Int) + 1) := rfl
      have HGOOD := Lib.hid hgood
      obtain ⟨z, ez⟩ : ∃ z, n.kids.getD k 0 = z := ⟨_, rfl⟩
      rw [ez] at hps hupk hbad hko
      have EZ := Lib.hid ez
      clear ez hgood
      -- the parent's pointer of the child: a pointer to this node, or not
      by_cases hok : kidOk ns i z = true
      · rw [hok] at hko
        have hko2 := hko.symm
        simp only [Bool.and_eq_true, beq_iff_eq] at hko2
        rw [if_pos hko2.1, hko2.2] at hupk
        unfold UpP at hupk
        rw [if_neg (by omega)] at hupk
        obtain ⟨s2, rfl, hs2⟩ := hupk
        have e2 : s2 = G + 1 + i := (PtrTo.node (w := wr) (G := G) (n := ns.length) (z := (i : Int) + 1) ⟨s2, rfl, hs2⟩ hi).2 rfl
        subst e2
        have heq := lk_neq (G + 1 + i) (G + 1 + i) _ c4 c4 HO4.out HO4.out
        simp only [decide_true, Bool.not_true] at heq
        have HOK := Lib.hid hok
        clear c2 c3 hps hbad hko hko2 hs2 hok
        go_wp2
        go_roundw
        case rel =>
          refine ⟨k + 1, by omega, by go_num, rfl, fun q hq => ?_⟩
          by_cases e : q = k
          · rw [e, EZ.out]; exact HOK.out
          · exact HGOOD.out q (by omega)
        case measure => simp [intOf]; omega
      · have hok' : kidOk ns i z = false := by simpa using hok
        have hv : linkB ns i n = false := by unfold linkB; rw [hbad hok', Bool.false_and]
        have HV := Lib.hid hv
        -- nil, or a pointer to something else
        have hup2 : upk = .pointer none ∨ ∃ s2, upk = .pointer (some ⟨s2, 0, none⟩) ∧ s2 ≠ G + 1 + i ∧ PtrTo wr G ns.length (upZ ns z) upk := by
          by_cases hinz : nIn ns.length z = true
          · rw [if_pos hinz] at hupk
            unfold UpP at hupk
            by_cases e0 : upZ ns z = 0
            · rw [if_pos e0] at hupk; exact Or.inl hupk
            · rw [if_neg e0] at hupk
              obtain ⟨s2, es, hs2⟩ := hupk
              refine Or.inr ⟨s2, es, fun e => ?_, ⟨s2, es, hs2⟩⟩
              have := (PtrTo.node (w := wr) (G := G) (n := ns.length) (z := upZ ns z) ⟨s2, rfl, hs2⟩ hi).1 e
              rw [hko, hinz, this] at hok'
              simp at hok'
          · rw [if_neg hinz] at hupk; exact Or.inl hupk
        clear hv hbad hko hok hok' hps hupk c2 c3
        rcases hup2 with rfl | ⟨s2, rfl, hne, hp2⟩
        · have heq := lk_neq_nil (G + 1 + i) wr
          go_wp2
          go_ret
          exact ⟨by rw [HV.out]; rfl, rfl⟩
        · obtain ⟨c5, ho5⟩ := PtrTo.obj (z := upZ ns z) (s := s2) HL.out (by rw [linksOf_len]; exact hp2)
          have heq := lk_neq s2 (G + 1 + i) wr c5 c4 ho5 HO4.out
          simp only [hne, decide_false, Bool.not_false] at heq
          clear ho5 hp2
          go_wp2
          go_ret
          exact ⟨by rw [HV.out]; rfl, rfl⟩
    · obtain rfl : k = n.kids.length := by omega
      have hkk := kids_good hgood
      clear hgood c3
      have hup := HUP.out
      unfold UpP at hup
      by_cases e0 : n.up = 0
      · rw [if_pos e0] at hup
        subst hup
        have hv : linkB ns i n = true := by unfold linkB upOk; rw [hkk, e0]; rfl
        have HV := Lib.hid hv
        clear hv hkk
        go_wp2
        go_ret
        exact ⟨by rw [HV.out]; rfl, rfl⟩
      · rw [if_neg e0] at hup
        have hup' := hup
        obtain ⟨s2, rfl, _⟩ := hup
        have hv : linkB ns i n = (((cntZ (kidsZ ns n.up) ((i : Int) + 1) : Nat) : Int) == 1) := by
          unfold linkB upOk
          rw [hkk, Bool.true_and, show (n.up == 0) = false by simpa using e0, Bool.false_or]
          unfold kidsZ
          by_cases h : nIn ns.length n.up = true
          · rw [h, Bool.true_and]
            simp only [if_true]
            rw [Bool.eq_iff_iff]
            simp only [beq_iff_eq]
            omega
          · have h' : nIn ns.length n.up = false := by simpa using h
            rw [h']
            rfl
        have HV := Lib.hid hv
        have HU := Lib.hid hup'
        clear hv hkk hup'
        go_wp2_with (fail)
        refine (itimesof G b off ns n.up s2 i _ HL.out HU.out hi (HKZ.out _)).mono ?_
        rintro e w1 ⟨rfl, rfl⟩
        generalize ((cntZ (kidsZ ns n.up) ((i : Int) + 1) : Nat) : Int) = q at *
        go_wp2
        go_ret
        exact ⟨by rw [HV.out]; rfl, rfl⟩
set_option maxHeartbeats 2000000 in
/-- linkedNode.contentOk -/
theorem icontentok (G b off : Nat) (ns : List PN) (i : Nat) (w : World) (hL : Linked w G b off (linksOf ns)) (hi : i < ns.length) (hnd : NodeAt w b (off + i * 64) ns[i]) (hk : ns[i].kids.length ≤ 1048576) (hr : ns[i].rl ≤ 1048576) :
    Calls Try.prog 75 #[.pointer (some ⟨G + 1 + i, 0, none⟩)] w fun e w' => e = .returned (.bool (conOk ns[i])) ∧ Below w.heap.size w w' := by
  have hin : nIn ns.length ((i : Int) + 1) = true := nIn_iff.2 (by omega)
  have hpi : PtrTo w G ns.length ((i : Int) + 1) (.pointer (some ⟨G + 1 + i, 0, none⟩)) := ⟨_, rfl, Or.inl ⟨hin, by omega⟩⟩
  have hnd0 : ndAt ns ((i : Int) + 1) = ns[i] := by
    rw [ndAt_get (by omega) (by omega)]
    congr 1
    omega
  obtain ⟨va, vc, c3, _⟩ := hL.kids hpi
  have ekz : kidsZ ns ((i : Int) + 1) = ns[i].kids := by rw [kidsZ, if_pos hin, hnd0]
  rw [ekz] at c3
  obtain ⟨l, q, upv, kv, hzq, hq, _, hh, _⟩ := hL.at (z := (i : Int) + 1) (by rw [linksOf_len]; exact hin)
  obtain rfl : q = i := by omega
  have c1 : w.cell? ⟨G + 1 + q, 1, none⟩ = some (.pointer (some ⟨b, off + q * 64, none⟩)) := (Go.Joins.cell_of_block hh 1).trans rfl
  clear hL hpi hin hnd0 ekz hh hzq
  generalize ns[q] = n at *
  obtain ⟨kv', tv, hrg, _, ⟨ta, tc, rfl, hti⟩⟩ := hnd
  have c62 : w.cell? ⟨b, off + q * 64 + 62, none⟩ = some (.bool n.meas) := hrg 62 _ nL_meas
  have c63 : w.cell? ⟨b, off + q * 64 + 63, none⟩ = some (.slice ta n.rl tc) := hrg 63 _ nL_tab
  have HTI := Lib.hid hti
  have hco : conOk n = if n.meas = true then (n.kids.isEmpty && tokB n.rules n.rl) else n.rl == 0 := rfl
  clear hrg hti
  by_cases hm : n.meas = true
  · rw [hm] at c62
    rw [if_pos hm] at hco
    by_cases hk0 : n.kids.length = 0
    · have hv : conOk n = tokB n.rules n.rl := by rw [hco, show n.kids.isEmpty = true by simpa using hk0, Bool.true_and]
      have HV := Lib.hid hv
      rw [hk0] at c3
      clear hco hv hm
      go_enter Try.func75, Try.ntmps75
      go_wp2_with (fail)
      refine (itableok ta n.rl tc n.rules _ HTI.out (by omega)).mono ?_
      rintro e w1 ⟨rfl, b1⟩
      go_wp2
      go_ret
      exact ⟨by rw [HV.out]; rfl, b1⟩
    · have hv : conOk n = false := by rw [hco, show n.kids.isEmpty = false by cases h : n.kids with | nil => rw [h] at hk0; exact absurd rfl hk0 | cons => rfl, Bool.false_and]
      have HV := Lib.hid hv
      have hk1 : ¬ ((n.kids.length : Int) = 0) := by omega
      clear hco hv hm
      go_enter Try.func75, Try.ntmps75
      go_wp2
      go_ret
      exact ⟨by rw [HV.out]; rfl, Below.refl _ _⟩
  · have hm' : n.meas = false := by simpa using hm
    rw [hm'] at c62
    rw [if_neg hm] at hco
    have hv : conOk n = ((n.rl : Int) == 0) := by rw [hco, Bool.eq_iff_iff]; simp only [beq_iff_eq]; omega
    have HV := Lib.hid hv
    clear hco hv hm hm'
    go_enter Try.func75, Try.ntmps75
    go_wp2
    go_ret
    exact ⟨by rw [HV.out]; rfl, Below.refl _ _⟩
def TiRel (G b off : Nat) (ns : List PN) (u : World) (iv : Value) (wr : World) : Prop :=
  ∃ k : Nat, k ≤ ns.length ∧ iv = .int .i64 k ∧ (∀ j (hj : j < ns.length), j < k → nodeB ns j ns[j] = true) ∧ Linked wr G b off (linksOf ns) ∧ Below u.heap.size u wr
set_option maxHeartbeats 4000000 in
theorem itreeok (a : Option Addr) (cap : Nat) (ns : List PN) (w : World) (hz : Nds w a ns) (hl : szS ns ≤ 1048576) :
    Calls Try.prog 17 #[.agg #[.slice a ns.length cap]] w fun e w' => e = .returned (.bool (treeB ns)) ∧ Below w.heap.size w w' := by
  obtain ⟨b, off, ha⟩ := hz.place
  have hnl : ns.length ≤ 1048576 := by unfold szS at hl; omega
  have hkl : ∀ i (hi : i < ns.length), ns[i].kids.length ≤ 1048576 ∧ ns[i].rl ≤ 1048576 := fun i hi => by
    have h1 := szK_le hi
    unfold szS at hl
    unfold szK at h1
    omega
  obtain ⟨u, eu⟩ : ∃ u, u = w.alloc (.cells #[.slice a ns.length cap] 26) := ⟨_, rfl⟩
  have h0 := hp_new w (.cells #[.slice a ns.length cap] 26)
  have B0 : Below w.heap.size w u := by rw [eu]; exact bel_alloc _ _
  rw [← eu] at h0
  have hs : w.heap.size < u.heap.size := by rw [eu]; simp
  have c0 : u.cell? ⟨w.heap.size, 0, none⟩ = some (.slice a ns.length cap) := (Go.Joins.cell_of_block h0 0).trans rfl
  have HZ := Lib.hid (hz.below B0)
  have HB := Lib.hid B0
  have HA := Lib.hid ha
  have EU := Lib.hid eu
  have HKL := Lib.hid hkl
  have HL := Lib.hid hl
  have HS := Lib.hid hs
  clear hz B0 ha eu hkl hl h0 hs
  by_cases h12 : ns.length ≤ 12
  · go_enter Try.func17, Try.ntmps17
    go_wp2_with (rw [← EU.out])
    refine (ilinkedof a cap b off ns _ HZ.out HL.out HA.out).mono ?_
    rintro e w1 ⟨rfl, hL, b1⟩
    generalize u.heap.size + 1 = G at *
    have H1 := Lib.hid hL
    have HB1 := Lib.hid b1
    clear b1 hL c0
    dsimp only
    go_wp2_with (fail)
    go_loopw [5, 14] (fun _ iv wr => TiRel G b off ns u iv wr) (fun _ i _ => ns.length - (intOf i).toNat)
    case atStart => exact ⟨0, Nat.zero_le _, rfl, fun j _ hj => absurd hj (Nat.not_lt_zero _), H1.out, HB1.out⟩
    case round =>
      obtain ⟨k, hk, rfl, hgood, hL, hb⟩ := hrel
      have hlo : (0 : Int) ≤ (k : Int) := Int.natCast_nonneg _
      by_cases hlt : k < ns.length
      · have hhi : (k : Int) < (ns.length : Int) := by omega
        have cp := hL.1 k (by rw [linksOf_len]; exact hlt)
        have hin : nIn ns.length ((k : Int) + 1) = true := nIn_iff.2 (by omega)
        obtain ⟨l, q, upv, kv, hzq, hq, _, hh, _⟩ := hL.at (z := (k : Int) + 1) (by rw [linksOf_len]; exact hin)
        obtain rfl : q = k := by omega
        have c1 : wr.cell? ⟨G + 1 + q, 1, none⟩ = some (.pointer (some ⟨b, off + q * 64, none⟩)) := (Go.Joins.cell_of_block hh 1).trans rfl
        obtain ⟨b', off', eab, _, hnd⟩ := (HZ.out.below hb).look hlt
        have hab : off' = off ∧ b' = b := by
          rcases HA.out with h | h
          · rw [h] at hlt; exact absurd hlt (Nat.not_lt_zero _)
          · rw [h] at eab; simp at eab; exact ⟨eab.2.symm, eab.1.symm⟩
        obtain ⟨rfl, rfl⟩ := hab
        have hnd' := hnd
        obtain ⟨kv', tv, hrg, _, _⟩ := hnd
        have RG := Lib.hid (range_styN hrg)
        have HN := Lib.hid hnd'
        have HG := Lib.hid hgood
        have HLL := Lib.hid hL
        have HBB := Lib.hid hb
        have hnode : nodeB ns q ns[q] = (styOk ns[q].sty && upOk ns q ns[q] && kidsOk ns q ns[q] && conOk ns[q] && depOk ns q) := rfl
        have hbad := tree_bad (ns := ns) hlt
        have HNO := Lib.hid hnode
        have HBAD := Lib.hid hbad
        have hlk : linkB ns q ns[q] = (kidsOk ns q ns[q] && upOk ns q ns[q]) := rfl
        have HLK := Lib.hid hlk
        clear hgood hL hb hzq hh hrg hnd' hnode hbad hlk hin
        go_wp2_with (first
          | ((with_reducible apply list_load_styAt); exact rfl; exact rfl; exact rfl; (with_reducible exact RG.out); simp only [Act.put, List.setIfInBounds_toArray, List.set_cons_succ, List.set_cons_zero])
          | fail)
        refine (istyok ns[q].sty _).mono ?_
        rintro e w2 ⟨rfl, b2⟩
        have HBB := Lib.hid (HBB.out.trans (b2.mono HBB.out.size))
        have HLL := Lib.hid (HLL.out.below b2)
        have HN := Lib.hid (HN.out.below b2)
        clear b2 c1 cp RG
        by_cases s1 : styOk ns[q].sty = true
        · rw [s1]
          dsimp only
          go_wp2_with (fail)
          refine (ilinksok G b' off' ns q _ HLL.out hlt (fun n hn => by obtain ⟨i, hi, rfl⟩ := List.getElem_of_mem hn; exact (HKL.out i hi).1)).mono ?_
          rintro e w3 ⟨rfl, rfl⟩
          by_cases s2 : linkB ns q ns[q] = true
          · rw [s2]
            dsimp only
            go_wp2_with (fail)
            refine (icontentok G b' off' ns q _ HLL.out hlt HN.out (HKL.out q hlt).1 (HKL.out q hlt).2).mono ?_
            rintro e w4 ⟨rfl, b4⟩
            have HBB := Lib.hid (HBB.out.trans (b4.mono HBB.out.size))
            have HLL := Lib.hid (HLL.out.below b4)
            clear b4 HN
            by_cases s3 : conOk ns[q] = true
            · rw [s3]
              dsimp only
              go_wp2_with (fail)
              refine (idepthof G b' off' ns.length ns ((q : Int) + 1) _ _ HLL.out hnl ⟨G + 1 + q, rfl, Or.inl ⟨nIn_iff.2 (by omega), by omega⟩⟩).mono ?_
              rintro e w5 ⟨rfl, rfl⟩
              dsimp only
              go_wp2_with (fail)
              refine (irng (dpV ns ((q : Int) + 1)) 1 4 _).mono ?_
              rintro e w6 ⟨rfl, rfl⟩
              have hdo : rnB (dpV ns ((q : Int) + 1)) 1 4 = depOk ns q := rfl
              rw [hdo]
              generalize dpV ns ((q : Int) + 1) = dd at *
              clear hdo
              by_cases s4 : depOk ns q = true
              · rw [s4]
                dsimp only
                have hno : nodeB ns q ns[q] = true := by
                  have h2 := s2
                  rw [HLK.out] at h2
                  simp only [Bool.and_eq_true] at h2
                  rw [HNO.out, s1, h2.1, h2.2, s3, s4]; rfl
                have HNN := Lib.hid hno
                clear hno s1 s2 s3 s4
                go_wp2_with (fail)
                go_roundw
                case rel =>
                  refine ⟨q + 1, by omega, by go_num, fun j hj hjk => ?_, HLL.out, HBB.out⟩
                  by_cases e : j = q
                  · subst e; exact HNN.out
                  · exact HG.out j hj (by omega)
                case measure => simp [intOf]; omega
              · have s4' : depOk ns q = false := by simpa using s4
                have hv : treeB ns = false := HBAD.out (by rw [HNO.out, s4', Bool.and_false])
                have HV := Lib.hid hv
                rw [s4']
                clear hv s1 s2 s3 s4 s4'
                dsimp only
                go_wp2_with (fail)
                go_ret
                exact ⟨by rw [HV.out]; rfl, HB.out.trans (HBB.out.mono HB.out.size)⟩
            · have s3' : conOk ns[q] = false := by simpa using s3
              have hv : treeB ns = false := HBAD.out (by rw [HNO.out, s3', Bool.and_false, Bool.false_and])
              have HV := Lib.hid hv
              rw [s3']
              clear hv s1 s2 s3 s3'
              dsimp only
              go_wp2_with (fail)
              go_ret
              exact ⟨by rw [HV.out]; rfl, HB.out.trans (HBB.out.mono HB.out.size)⟩
          · have s2' : linkB ns q ns[q] = false := by simpa using s2
            have hv : treeB ns = false := HBAD.out (by
              have h2 := s2'
              rw [HLK.out, Bool.and_comm] at h2
              rw [HNO.out, Bool.and_assoc (styOk _), h2, Bool.and_false, Bool.false_and, Bool.false_and])
            have HV := Lib.hid hv
            rw [s2']
            clear hv s1 s2 s2'
            dsimp only
            go_wp2_with (fail)
            go_ret
            exact ⟨by rw [HV.out]; rfl, HB.out.trans (HBB.out.mono HB.out.size)⟩
        · have s1' : styOk ns[q].sty = false := by simpa using s1
          have hv : treeB ns = false := HBAD.out (by rw [HNO.out, s1', Bool.false_and, Bool.false_and, Bool.false_and, Bool.false_and])
          have HV := Lib.hid hv
          rw [s1']
          clear hv s1 s1'
          dsimp only
          go_wp2_with (fail)
          go_ret
          exact ⟨by rw [HV.out]; rfl, HB.out.trans (HBB.out.mono HB.out.size)⟩
      · obtain rfl : k = ns.length := by omega
        have hv : treeB ns = true := tree_good h12 fun i hi => hgood i hi hi
        have HV := Lib.hid hv
        have HBB := Lib.hid hb
        clear hv hgood hL hb
        go_wp2_with (fail)
        go_ret
        exact ⟨by rw [HV.out]; rfl, HB.out.trans (HBB.out.mono HB.out.size)⟩
  · have hv := tree_len h12
    have hgt : (12 : Int) < (ns.length : Int) := by omega
    have HV := Lib.hid hv
    clear hv
    go_enter Try.func17, Try.ntmps17
    go_wp2_with (rw [← EU.out])
    go_ret
    exact ⟨by rw [HV.out]; rfl, HB.out⟩
end Go.Proofs.Ytckpjldenkjddaa
end
