import Derived.Deep.RegionWith
import Derived.Maps.AppendAt
import Derived.OwnWalk
import Derived.Deep.QuietTactic
import Derived.BigQuiet
import Derived.Test.YtfnnfjpbplbjmaaCnAA
import Derived.Test.YtfnnfjpbplbjmaaCnAF
import Derived.Test.YtfnnfjpbplbjmaaCnAU
section
namespace Go.Proofs.Ytfnnfjpbplbjmaa
open Go.ChangeShapes Go.WideShapes Go.ChangeAt Go.RowKit
set_option linter.unusedVariables false
set_option linter.unusedSimpArgs false
set_option maxRecDepth 8000

def hdS (f : Nat → Int) : Bool := bz (f 7)
def apS (f : Nat → Int) : Bool := bz (f 6)
/-- The role of a child: 0 in the flow, 1 apart, 2 hidden. -/
def rlZ (f : Nat → Int) : Int := if hdS f = true then 2 else if apS f = true then 1 else 0
theorem kid_get {ns : List PN} {z : Int} {j : Nat} (h : j < (kidsZ ns z).length) : (kidsZ ns z).getD j 0 = (kidsZ ns z)[j] := by
  rw [List.getD_eq_getElem?_getD, List.getElem?_eq_getElem h]; rfl
theorem kids_len {ns : List PN} (ht : treeB ns = true) (z : Int) : (kidsZ ns z).length ≤ 12 := by
  unfold kidsZ
  split
  · rename_i h
    have h1 := nIn_iff.1 h
    rw [ndAt_get h1 (by omega)]
    exact kids_few ht (by omega)
  · simp
theorem kid_at {ns : List PN} (ht : treeB ns = true) {z : Int} {j : Nat} (h : j < (kidsZ ns z).length) : nIn ns.length ((kidsZ ns z).getD j 0) = true := by
  rw [kid_get h]; exact (kid_of ht (List.getElem_mem h)).1
theorem iroleof (f : Nat → Int) (w : World) :
    Calls Try.prog 96 #[.agg (sCells f)] w fun e w' => e = .returned (.int .i64 (rlZ f)) ∧ Below w.heap.size w w' := by
  have h0 := hp_new w (.cells (sCells f) 41)
  have bb : Below w.heap.size w (w.alloc (.cells (sCells f) 41)) := Go.Joins.below_alloc1 ..
  obtain ⟨u, eu⟩ : ∃ u, u = w.alloc (.cells (sCells f) 41) := ⟨_, rfl⟩
  rw [← eu] at h0 bb
  have EU := Lib.hid eu
  clear eu
  have c7 := sty_bool h0 7 (Or.inr rfl)
  have c6 := sty_bool h0 6 (Or.inl rfl)
  have er : rlZ f = if bz (f 7) = true then 2 else if bz (f 6) = true then 1 else 0 := rfl
  rw [er]
  generalize bz (f 7) = h at *
  generalize bz (f 6) = q at *
  clear er
  cases h <;> cases q
  all_goals
    go_enter Try.func96, Try.ntmps96
    go_wp2_with (rw [← EU.out])
    go_ret
    exact ⟨rfl, bb⟩
/-- What nodeOf answers. -/
def NoPost (a : Option Addr) (ns : List PN) (z : Int) (w : World) (e : Ending) (w' : World) : Prop :=
  Below w.heap.size w w' ∧ if (nIn ns.length z && treeB ns) = true then
    ∃ G b off s, e = .returned (.pointer (some ⟨s, 0, none⟩)) ∧ a = some ⟨b, off, none⟩ ∧ w.heap.size ≤ G ∧ Linked w' G b off (linksOf ns) ∧ PtrTo w' G ns.length z (.pointer (some ⟨s, 0, none⟩))
  else e = .returned (.pointer none)
set_option maxHeartbeats 1000000 in
theorem inodeof (a : Option Addr) (cap : Nat) (ns : List PN) (z : Int) (w : World) (hz : Nds w a ns) (hl : szS ns ≤ 1048576) (hz0 : I64 z) :
    Calls Try.prog 90 #[.agg #[.slice a ns.length cap], .int .i64 z] w (NoPost a ns z w) := by
  obtain ⟨b, off, ha⟩ := hz.place
  have hnl : ns.length ≤ 1048576 := by unfold szS at hl; omega
  have B0 := bel_alloc w (.cells #[.slice a ns.length cap] 26)
  have h0 := hp_new w (.cells #[.slice a ns.length cap] 26)
  obtain ⟨u, eu⟩ : ∃ u, u = w.alloc (.cells #[.slice a ns.length cap] 26) := ⟨_, rfl⟩
  rw [← eu] at h0 B0
  have hus : w.heap.size < u.heap.size := by rw [eu]; simp
  have EU := Lib.hid eu
  have HZ := Lib.hid (hz.below B0)
  have HB := Lib.hid B0
  have HI := Lib.hid hz0
  have HA := Lib.hid ha
  have H0 := Lib.hid h0
  have KH := Lib.hid (ihasnode a cap ns z u HZ.out hl)
  have c0 := Go.Joins.cell_of_block h0 0
  simp at c0
  clear hz B0 hz0 ha eu h0
  have hne : (nIn ns.length z && treeB ns) = true → a = some ⟨b, off, none⟩ := fun h => by
    simp only [Bool.and_eq_true] at h
    have h1 := nIn_iff.1 h.1
    rcases HA.out with e | e
    · rw [e] at h1; simp at h1; omega
    · exact e
  have HNE := Lib.hid hne
  clear hne
  by_cases hh : (nIn ns.length z && treeB ns) = true
  · have HH := Lib.hid hh
    rw [hh] at KH HNE
    clear hh
    go_enter Try.func90, Try.ntmps90
    go_wp2_with (rw [← EU.out])
    refine KH.out.mono ?_
    rintro e w1 ⟨rfl, b1⟩
    have H1 := hp_below H0.out b1
    replace c0 := Go.Joins.cell_of_block H1 0
    simp at c0
    have HZ1 := Lib.hid (HZ.out.below b1)
    have HB1 := Lib.hid (HB.out.trans (b1.mono HB.out.size))
    have hu1 := b1.size
    clear b1 H1
    dsimp only
    go_wp2_with (fail)
    refine (ilinkedof a cap b off ns _ HZ1.out hl HA.out).mono ?_
    rintro e w2 ⟨rfl, hL, b2⟩
    have hG : w.heap.size ≤ w1.heap.size + 1 := by omega
    generalize w1.heap.size + 1 = G at *
    have HL2 := Lib.hid hL
    have HB2 := Lib.hid (HB1.out.trans (b2.mono HB1.out.size))
    clear b2 hL c0
    dsimp only
    go_wp2_with (fail)
    refine (iat G ns.length ns.length z w2 HI.out (by have := HL2.out.1; rwa [linksOf_len] at this) (by have := HL2.out.2.1; rwa [linksOf_len] at this) hnl).mono ?_
    rintro e w3 ⟨p, rfl, hp, b3⟩
    obtain ⟨s, rfl, hs⟩ := hp
    have HP := Lib.hid (show PtrTo w3 G ns.length z (.pointer (some ⟨s, 0, none⟩)) from ⟨s, rfl, hs⟩)
    have HL3 := Lib.hid (HL2.out.below b3)
    have HB3 := Lib.hid (HB2.out.trans (b3.mono HB2.out.size))
    clear b3 hs
    dsimp only
    go_wp2_with (fail)
    go_ret
    exact ⟨HB3.out, by rw [if_pos HH.out]; exact ⟨G, b, off, s, rfl, HNE.out trivial, hG, HL3.out, HP.out⟩⟩
  · have hh' : (nIn ns.length z && treeB ns) = false := by simpa using hh
    have HH := Lib.hid hh
    rw [hh'] at KH
    clear hh hh'
    go_enter Try.func90, Try.ntmps90
    go_wp2_with (rw [← EU.out])
    refine KH.out.mono ?_
    rintro e w1 ⟨rfl, b1⟩
    have HB1 := Lib.hid (HB.out.trans (b1.mono HB.out.size))
    clear b1
    dsimp only
    go_wp2_with (fail)
    go_ret
    exact ⟨HB1.out, by rw [if_neg HH.out]; rfl⟩
/-- What lies behind the pointer to the node z. -/
theorem Linked.look {w : World} {G b off : Nat} {ns : List PN} {a : Option Addr} (hL : Linked w G b off (linksOf ns)) (hz : Nds w a ns) (ha : a = some ⟨b, off, none⟩) {z : Int} {s : Nat} (h : PtrTo w G ns.length z (.pointer (some ⟨s, 0, none⟩))) (hin : nIn ns.length z = true) :
    ∃ (k : Nat) (upv : Value) (va : Option Addr) (vc : Nat), z = (k : Int) + 1 ∧ k < ns.length ∧ s = G + 1 + k ∧ w.cell? ⟨s, 0, none⟩ = some (.int .i64 z) ∧ w.cell? ⟨s, 1, none⟩ = some (.pointer (some ⟨b, off + k * 64, none⟩)) ∧ w.cell? ⟨s, 2, none⟩ = some upv ∧ UpP w G ns.length (upZ ns z) upv ∧
      w.cell? ⟨s, 3, none⟩ = some (.slice va (kidsZ ns z).length vc) ∧ KidsAt w G ns.length va (kidsZ ns z) ∧ NodeAt w b (off + k * 64) (ndAt ns z) := by
  obtain ⟨l, q, upv, kv, hzq, hq, hlq, hh, hup, _⟩ := hL.at (z := z) (by rw [linksOf_len]; exact hin)
  rw [linksOf_len] at hq hup
  obtain ⟨va, vc, c3, hka⟩ := hL.kids h
  obtain ⟨s', e, h'⟩ := h
  simp at e
  subst e
  have hs : s = G + 1 + q := by
    rcases h' with ⟨h1, h2⟩ | ⟨h1, _⟩
    · omega
    · rw [hin] at h1; cases h1
  subst hs
  have hupz : upZ ns z = l.1 := by rw [hzq]; exact linksOf_up hlq
  obtain ⟨b', off', eab, _, hnd⟩ := hz.look hq
  rw [ha] at eab
  simp at eab
  obtain ⟨rfl, rfl⟩ := eab
  refine ⟨q, upv, va, vc, hzq, hq, rfl, ?_, (Go.Joins.cell_of_block hh 1).trans rfl, (Go.Joins.cell_of_block hh 2).trans rfl, by rw [hupz]; exact hup, c3, hka, ?_⟩
  · rw [hzq]; exact (Go.Joins.cell_of_block hh 0).trans rfl
  · rw [hzq, ndAt_nat hq]; exact hnd
end Go.Proofs.Ytfnnfjpbplbjmaa
end
section
namespace Go.Proofs.Ytfnnfjpbplbjmaa
open Go.ChangeShapes Go.WideShapes Go.ChangeAt Go.RowKit

section
variable {P : Program}

/-- In the place of an operation: nothing, as late as it. -/
def nopOf (o : Oper) : Oper := ⟨none, .move (.const undef), o.type, o.pos, o.after, none⟩
/-- The operations, with nothing in the place of number k and of all from n on. -/
def blank (n k : Nat) : Nat → List Oper → List Oper
  | _, [] => []
  | i, o :: l => (if i = k ∨ n ≤ i then nopOf o else o) :: blank n k (i + 1) l
/-- The worlds that lie behind w: more drawn, more blocks. -/
def behind (w w' : World) : Prop := ∃ p : Regrown, w' = Sort.grow (redrawn w p.d) p.os
/-- The Bools over the region. -/
def newB (n k : Nat) (l : List Oper) : Bool :=
  Region.noSelect l.toArray && Region.noSelect (blank n k 0 l).toArray && Region.lexFrom .any (blank n k 0 l).toArray l.length 0 (Array.replicate l.length false) &&
  decide (k < n) && decide (n < l.length) && Region.sinkB .any l.toArray n && Region.chainB .any l.toArray n &&
  Region.seqB .any l.toArray (l.length - n) n (Array.replicate n true ++ Array.replicate (l.length - n) false) &&
  ((List.range n).all fun j => j == k || match l[k]?, l[j]? with | some x, some y => x.apart l.toArray y | _, _ => false) &&
  ((List.range l.length).all fun j => match l[j]? with | some o => o.after.all fun e => decide (e.on < j) | none => true) &&
  ((List.range n).all fun j => match l[j]? with | some o => (match o.guard with | none => true | some (g, _) => g != k && decide (g < n)) | none => true) &&
  ((List.range n).all fun i => (List.range n).all fun j => i == j || match l[i]?, l[j]? with | some x, some y => (match x.dst with | none => true | some t => y.dst != some t) | _, _ => true)

end
end Go.Proofs.Ytfnnfjpbplbjmaa
end
section
namespace Go.Proofs.Ytfnnfjpbplbjmaa
open Go.ChangeShapes Go.WideShapes Go.ChangeAt Go.RowKit
set_option linter.unusedVariables false
set_option linter.unusedSimpArgs false
set_option maxRecDepth 8000

set_option linter.unusedVariables false
set_option linter.unusedSimpArgs false
set_option maxRecDepth 8000

theorem info_ap2 : (Try.prog.info? 3).map (fun i => (i.zero, i.size, i.bytes)) = some (some (.int .i64 0), 1, 8) := by kernel_rfl
theorem ownR_le2 {b b' : Nat} {v : Value} {xs : List Int} {w : World} (h : RowI b v xs w) (hb : b' ≤ b) : RowI b' v xs w :=
  ⟨h.1, h.2.imp id fun ⟨g, cap, cur, h1, h2, h3⟩ => ⟨g, cap, cur, h1, by omega, h3⟩⟩
theorem sl10ndK {a : Option Addr} {cap : Nat} {ns : List PN} {z : Int} {w : World} (hz : Nds w a ns) (hl : ns.length ≤ 1048576) (hin : nIn ns.length z = true) :
    ∃ ka kc tv, Ints w ka (kidsZ ns z).length (kidsZ ns z) ∧ ∀ w', Below w.heap.size w w' → Calls Try.prog 70 #[.agg #[.slice a ns.length cap], .int .i64 z] w' fun e w'' => e = .returned (.agg (nA (upZ ns z) (.slice ka (kidsZ ns z).length kc) (ndAt ns z).sty (ndAt ns z).meas tv)) ∧ Below w'.heap.size w' w'' := by
  obtain ⟨b, off, q, kv, tv, rfl, hzq, hq, hgd, hok, hrg, hkv, htv⟩ := nd_look hz hin
  have k1 := hkv.one
  have t1 := htv.one
  have ek : kidsZ ns z = (ndAt ns z).kids := by unfold kidsZ; rw [if_pos hin]
  obtain ⟨ka, kc, rfl, hki⟩ := hkv
  rw [ek]
  exact ⟨ka, kc, tv, hki, fun w' hw => sl10nd b off ns.length cap q z (ndAt ns z) _ tv w' hzq hq hl (rg_below hrg hw) k1 t1⟩
end Go.Proofs.Ytfnnfjpbplbjmaa
end
