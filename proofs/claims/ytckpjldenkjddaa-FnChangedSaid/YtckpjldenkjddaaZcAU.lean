import Derived.Test.YtckpjldenkjddaaZcAH
import Derived.Test.YtckpjldenkjddaaZcAR
import Derived.Test.YtckpjldenkjddaaZcAS
import Derived.Test.YtckpjldenkjddaaZcAT
section
namespace Go.Proofs.Ytckpjldenkjddaa
open Go.ChangeShapes Go.WideShapes Go.ChangeAt Go.RowKit
set_option linter.unusedVariables false
set_option linter.unusedSimpArgs false
set_option maxRecDepth 8000

/-- A tree of the call's own and a code come back. -/
def ChPost (ns : List PN) (c : Int) (w : World) (e : Ending) (w' : World) : Prop :=
  ∃ (v : Value) (ms : List ND), ms.map ND.n = ns ∧ e = .returned (.tuple #[.agg #[v], .int .i64 c]) ∧ OwnN w.heap.size v ms w' ∧ Below w.heap.size w w'
/-- The same, and a node without children has a slice without room. -/
def ChPostK (ns : List PN) (c : Int) (w : World) (e : Ending) (w' : World) : Prop :=
  ∃ (v : Value) (ms : List ND), ms.map ND.n = ns ∧ e = .returned (.tuple #[.agg #[v], .int .i64 c]) ∧ OwnN w.heap.size v ms w' ∧ Below w.heap.size w w' ∧ KCs ms
theorem ChPostK.ch {ns : List PN} {c : Int} {w : World} (e : Ending) (w' : World) (h : ChPostK ns c w e w') : ChPost ns c w e w' := by
  obtain ⟨v, ms, h1, h2, h3, h4, _⟩ := h
  exact ⟨v, ms, h1, h2, h3, h4⟩
def stySet (ns : List PN) (z : Int) (f : Nat → Int) : List PN := ns.set (z - 1).toNat { ndAt ns z with sty := f }
def ssC (ns : List PN) (z : Int) (f : Nat → Int) : Int := if (nIn ns.length z && treeB ns) = true then if styOk f = true then 0 else 4 else 1
def ssN (ns : List PN) (z : Int) (f : Nat → Int) : List PN := if (nIn ns.length z && treeB ns) = true then if styOk f = true then stySet ns z f else ns else ns
theorem styled_map {ms : List ND} {ns : List PN} {k : Nat} {f : Nat → Int} (h : ms.map ND.n = ns) (hk : k < ms.length) : (ms.set k (ms[k].styled f)).map ND.n = stySet ns ((k : Int) + 1) f := by
  subst h
  unfold stySet
  rw [List.map_set]
  have e : ((k : Int) + 1 - 1).toNat = k := by omega
  rw [e, ndAt_get (by simp; omega) (by simp; omega)]
  simp only [e]
  congr 1
  simp [ND.styled]
/-- What stands in memory while SetStyle works: its boxes, the copy's variable, the copy. -/
structure SF (w u : World) (s3 : Value) (f : Nat → Int) (X : Nat) (x : Value) (ms : List ND) (w' : World) : Prop where
  bu : Below u.heap.size u w'
  bw : Below w.heap.size w w'
  hu : u.heap.size = w.heap.size + 3
  hX : u.heap.size ≤ X
  hg : ∀ b, x.ownBlock = some b → b < X
  h3 : w'.heap[w.heap.size]? = some (.cells #[s3] 26)
  h5 : w'.heap[w.heap.size + 1]? = some (.cells (sCells f) 41)
  h6 : w'.heap[w.heap.size + 1 + 1]? = some (.cells #[.slice none 0 0] 26)
  h8 : w'.heap[X]? = some (.cells #[x] 26)
  ho : OwnN u.heap.size x ms w'
theorem SF.c3 {w u : World} {s3 x : Value} {f : Nat → Int} {X : Nat} {ms : List ND} {w' : World} (h : SF w u s3 f X x ms w') : w'.cell? ⟨w.heap.size, 0, none⟩ = some s3 := (Go.Joins.cell_of_block h.h3 0).trans rfl
theorem SF.c8 {w u : World} {s3 x : Value} {f : Nat → Int} {X : Nat} {ms : List ND} {w' : World} (h : SF w u s3 f X x ms w') : w'.cell? ⟨X, 0, none⟩ = some x := (Go.Joins.cell_of_block h.h8 0).trans rfl
theorem SF.c6 {w u : World} {s3 x : Value} {f : Nat → Int} {X : Nat} {ms : List ND} {w' : World} (h : SF w u s3 f X x ms w') : w'.cell? ⟨w.heap.size + 1 + 1, 0, none⟩ = some (.slice none 0 0) := (Go.Joins.cell_of_block h.h6 0).trans rfl
theorem SF.kept {w u : World} {s3 x : Value} {f : Nat → Int} {X : Nat} {ms : List ND} {w' w'' : World} (h : SF w u s3 f X x ms w') (b : Below w'.heap.size w' w'') : SF w u s3 f X x ms w'' :=
  ⟨h.bu.trans (b.mono h.bu.size), h.bw.trans (b.mono h.bw.size), h.hu, h.hX, h.hg, hp_below h.h3 b, hp_below h.h5 b, hp_below h.h6 b, hp_below h.h8 b, h.ho.below b⟩
theorem SF.ptr {w u : World} {s3 : Value} {f : Nat → Int} {X : Nat} {ms : List ND} {w' : World} {av : Option Addr} {cv : Nat} (h : SF w u s3 f X (.slice av ms.length cv) ms w') (hm : 0 < ms.length) : ∃ g, av = some ⟨g, 0, none⟩ := by
  rcases h.ho.1.2 with ⟨h1, h2⟩ | ⟨g, cap, cur, h1, _⟩
  · omega
  · simp at h1; exact ⟨g, h1.1⟩
theorem SF.thereS {w u : World} {s3 : Value} {f : Nat → Int} {X : Nat} {ms : List ND} {w' : World} {g cv k : Nat} (h : SF w u s3 f X (.slice (some ⟨g, 0, none⟩) ms.length cv) ms w') (hm : k < ms.length) : w'.there g (k * 64 + 2) 60 := fun j hj => by
  have := h.ho.there hm (2 + j) (by omega)
  rw [show k * 64 + 2 + j = k * 64 + (2 + j) by omega]
  exact this
theorem SF.styled {w u : World} {s3 : Value} {f : Nat → Int} {X : Nat} {ms : List ND} {w' w4 : World} {g cv k : Nat} (h : SF w u s3 f X (.slice (some ⟨g, 0, none⟩) ms.length cv) ms w') (hm : k < ms.length) (hf : InR f) (e : w4 = w'.setCells g (k * 64 + 2) (sCells f).toList) :
    SF w u s3 f X (.slice (some ⟨g, 0, none⟩) ms.length cv) (ms.set k (ms[k].styled f)) w4 := by
  have hg : u.heap.size ≤ g := by
    rcases h.ho.1.2 with ⟨h1, h2⟩ | ⟨g', cap, cur, h1, hg, _⟩
    · omega
    · simp at h1; omega
  have hu := h.hu
  have hX : g ≠ X := fun e => by have := h.hg g rfl; omega
  have G := gr_sets g (sCells f).toList (k * 64 + 2) w'
  rw [← e] at G
  have ho := h.ho.restyle (List.getElem?_eq_getElem hm) hf
  rw [← e] at ho
  refine ⟨?_, ?_, hu, h.hX, h.hg, ?_, ?_, ?_, ?_, ho⟩
  · exact ⟨G.os.trans h.bu.os, G.tape.trans h.bu.tape, G.output.trans h.bu.output, Nat.le_trans h.bu.size G.size, fun q hq => (G.block q (Nat.lt_of_lt_of_le hq h.bu.size) (fun e => by simp at e; omega)).trans (h.bu.block q hq)⟩
  · exact ⟨G.os.trans h.bw.os, G.tape.trans h.bw.tape, G.output.trans h.bw.output, Nat.le_trans h.bw.size G.size, fun q hq => (G.block q (Nat.lt_of_lt_of_le hq h.bw.size) (fun e => by simp at e; omega)).trans (h.bw.block q hq)⟩
  · exact (G.block _ (hp_lt h.h3) (fun e => by simp at e; omega)).trans h.h3
  · exact (G.block _ (hp_lt h.h5) (fun e => by simp at e; omega)).trans h.h5
  · exact (G.block _ (hp_lt h.h6) (fun e => by simp at e; omega)).trans h.h6
  · exact (G.block _ (hp_lt h.h8) (fun e => hX (by simpa using e.symm))).trans h.h8
/-- The answer stands in its variable. -/
theorem SF.done {w u : World} {s3 x : Value} {f : Nat → Int} {X : Nat} {ms : List ND} {w' : World} (h : SF w u s3 f X x ms w') :
    (w'.setCell ⟨w.heap.size + 1 + 1, 0, none⟩ x).cell? ⟨w.heap.size + 1 + 1, 0, none⟩ = some x ∧ OwnN w.heap.size x ms (w'.setCell ⟨w.heap.size + 1 + 1, 0, none⟩ x) ∧ Below w.heap.size w (w'.setCell ⟨w.heap.size + 1 + 1, 0, none⟩ x) := by
  have hu := h.hu
  have g3 := Go.Joins.block_setCell (i := 0) h.h6 x
  refine ⟨(Go.Joins.cell_of_block g3 0).trans rfl, (h.ho.kept (from_set (g := w.heap.size + 1 + 1) (by omega) 0 x)).lower (by omega), bl_set h.bw (g := w.heap.size + 1 + 1) 0 (by omega) x⟩
set_option maxHeartbeats 4000000 in
theorem isetstyle (a : Option Addr) (cap : Nat) (ns : List PN) (z : Int) (f : Nat → Int) (w : World) (hz : Nds w a ns) (hl : szS ns ≤ 1048576) (hf : InR f) (hz0 : -9223372036854775808 ≤ z ∧ z ≤ 9223372036854775807) :
    Calls Try.prog 25 #[.agg #[.slice a ns.length cap], .int .i64 z, .agg (sCells f)] w (ChPost (ssN ns z f) (ssC ns z f) w) := by
  have bb := below_three w (.cells #[.slice a ns.length cap] 26) (.cells (sCells f) 41) (.cells #[.slice none 0 0] 26)
  have h0 := hp_on (hp_on (hp_new w (.cells #[.slice a ns.length cap] 26)) (.cells (sCells f) 41)) (.cells #[.slice none 0 0] 26)
  have h1 := hp_on (hp_new (w.alloc (.cells #[.slice a ns.length cap] 26)) (.cells (sCells f) 41)) (.cells #[.slice none 0 0] 26)
  have h2 := hp_new ((w.alloc (.cells #[.slice a ns.length cap] 26)).alloc (.cells (sCells f) 41)) (.cells #[.slice none 0 0] 26)
  simp only [World.size_alloc] at h1 h2
  obtain ⟨u, eu⟩ : ∃ u, u = (((w.alloc (.cells #[.slice a ns.length cap] 26)).alloc (.cells (sCells f) 41)).alloc (.cells #[.slice none 0 0] 26)) := ⟨_, rfl⟩
  rw [← eu] at bb h0 h1 h2
  have hs : u.heap.size = w.heap.size + 3 := by rw [eu]; simp
  have c0 : u.cell? ⟨w.heap.size, 0, none⟩ = some (.slice a ns.length cap) := (Go.Joins.cell_of_block h0 0).trans rfl
  have KEY : ∀ (w1 v1 : World) (x : Value) (ms : List ND), OwnN u.heap.size x ms w1 → Below u.heap.size u w1 → v1 = w1.alloc (.cells #[x] 26) → SF w u (.slice a ns.length cap) f w1.heap.size x ms v1 := fun w1 v1 x ms ho b1 e => by
    have b2 := bel_alloc w1 (.cells #[x] 26)
    rw [← e] at b2
    have b3 := b1.trans (b2.mono b1.size)
    refine ⟨b3, bb.trans (b3.mono bb.size), hs, b1.size, fun b hb => (ho.1.lt b hb).2, hp_below h0 b3, hp_below h1 b3, hp_below h2 b3, ?_, ho.below b2⟩
    rw [e]; exact hp_new _ _
  have EU := Lib.hid eu
  have HZ := Lib.hid (hz.below bb)
  have KEY' := KEY
  clear KEY
  have KEY := Lib.hid KEY'
  clear KEY'
  clear hz eu bb h0 h1 h2 hs
  have hv : ssN ns z f = (if (nIn ns.length z && treeB ns) = true then if styOk f = true then stySet ns z f else ns else ns) := rfl
  have hc : ssC ns z f = (if (nIn ns.length z && treeB ns) = true then if styOk f = true then 0 else 4 else 1) := rfl
  have HN := Lib.hid (fun h : (nIn ns.length z && treeB ns) = true => nIn_iff.1 (Bool.and_eq_true_iff.1 h).1)
  have KH := Lib.hid (fun w' (h : Nds w' a ns) => ihasnode a cap ns z w' h hl)
  have KO := Lib.hid (istyok f)
  generalize (nIn ns.length z && treeB ns) = r at *
  generalize styOk f = s at *
  rw [hv, hc]
  clear hv hc
  have HF := Lib.hid hf
  cases r
  case' true => cases s
  case' true.true =>
    obtain ⟨k, hzk, hkl⟩ : ∃ k : Nat, z = (k : Int) + 1 ∧ k < ns.length := ⟨(z - 1).toNat, by have := HN.out rfl; omega, by have := HN.out rfl; omega⟩
    subst hzk
    have hw : IntKind.i64.wrap ((k : Int) + 1 - 1) = (k : Int) := by rw [show (k : Int) + 1 - 1 = k by omega]; exact IntWalk.i64_in _ (by omega)
    have hlo : (0 : Int) ≤ (k : Int) := Int.natCast_nonneg _
  all_goals
    go_enter Try.func25, Try.ntmps25
    go_wp2_with (first
      | (rw [← EU.out])
      | (go_at_call 62; refine (itrcopy a cap ns u HZ.out hl).mono ?_; rintro e w1 ⟨v, ms, hms, rfl, ho, b1⟩; obtain ⟨av, cv, rfl⟩ := own_form ho.1; clear c0;
          obtain ⟨v1, ev1⟩ : ∃ v1, v1 = w1.alloc (.cells #[.slice av ms.length cv] 26) := ⟨_, rfl⟩; have S1 := Lib.hid (KEY.out w1 v1 _ ms ho b1 ev1); have EV1 := Lib.hid ev1; clear ev1 b1 ho; have c3 := S1.out.c3; have HMS := Lib.hid hms; clear hms)
      | (rw [← EV1.out])
      | (go_at_call 61; refine (KH.out _ (HZ.out.below S1.out.bu)).mono ?_; rintro e w2 ⟨rfl, b2⟩; have S2 := Lib.hid (S1.out.kept b2); clear b2 c3; have c8 := S2.out.c8; have c6 := S2.out.c6; have f6 := Go.Joins.unfrozen_of_block S2.out.h6 0)
      | ((with_reducible apply list_load_sty); exact rfl; exact rfl; exact rfl; (with_reducible exact S2.out.h5); simp only [Act.put, List.setIfInBounds_toArray, List.set_cons_succ, List.set_cons_zero]; clear c8 c6 f6)
      | (go_at_call 73; refine (KO.out _).mono ?_; rintro e w3 ⟨rfl, b3⟩; have S3 := Lib.hid (S2.out.kept b3); clear b3; have c8 := S3.out.c8; have c6 := S3.out.c6; have f6 := Go.Joins.unfrozen_of_block S3.out.h6 0;
          (try (have hkm : k < ms.length := by rw [map_len HMS.out]; exact hkl
                obtain ⟨g, eg⟩ := S3.out.ptr (by omega)
                subst eg
                have hhi : (k : Int) < (ms.length : Int) := by omega
                have TH := Lib.hid (S3.out.thereS hkm))))
      | ((with_reducible apply list_load_sty); exact rfl; exact rfl; exact rfl; (with_reducible exact S3.out.h5); simp only [Act.put, List.setIfInBounds_toArray, List.set_cons_succ, List.set_cons_zero])
      | ((with_reducible apply list_store_styAt); exact rfl; exact rfl; exact rfl; exact rfl; (with_reducible exact TH.out); simp only [Act.put, List.setIfInBounds_toArray, List.set_cons_succ, List.set_cons_zero]; clear c8 c6 f6;
          obtain ⟨w4, ew4⟩ : ∃ w4, w4 = w3.setCells g (k * 64 + 2) (sCells f).toList := ⟨_, rfl⟩; have S4 := Lib.hid (S3.out.styled hkm HF.out ew4); have EW4 := Lib.hid ew4; clear ew4; have c8 := S4.out.c8; have c6 := S4.out.c6; have f6 := Go.Joins.unfrozen_of_block S4.out.h6 0)
      | (rw [← EW4.out]))
  · have D := S4.out.done
    obtain ⟨w5, ew5⟩ : ∃ w5, w5 = w4.setCell ⟨w.heap.size + 1 + 1, 0, none⟩ (.slice (some ⟨g, 0, none⟩) ms.length cv) := ⟨_, rfl⟩
    rw [← ew5] at D ⊢
    obtain ⟨zc, D1, D2⟩ := D
    exact bodyPost_ret (v := .tuple #[.agg #[.slice (some ⟨g, 0, none⟩) ms.length cv], .int .i64 0]) (by simp [results, Try.results25, go_sem, zc]) rfl ⟨_, _, styled_map HMS.out hkm, rfl, D1, D2⟩
  · have D := S3.out.done
    obtain ⟨w5, ew5⟩ : ∃ w5, w5 = w3.setCell ⟨w.heap.size + 1 + 1, 0, none⟩ (.slice av ms.length cv) := ⟨_, rfl⟩
    rw [← ew5] at D ⊢
    obtain ⟨zc, D1, D2⟩ := D
    exact bodyPost_ret (v := .tuple #[.agg #[.slice av ms.length cv], .int .i64 4]) (by simp [results, Try.results25, go_sem, zc]) rfl ⟨_, ms, HMS.out, rfl, D1, D2⟩
  · have D := S2.out.done
    obtain ⟨w5, ew5⟩ : ∃ w5, w5 = w2.setCell ⟨w.heap.size + 1 + 1, 0, none⟩ (.slice av ms.length cv) := ⟨_, rfl⟩
    rw [← ew5] at D ⊢
    obtain ⟨zc, D1, D2⟩ := D
    exact bodyPost_ret (v := .tuple #[.agg #[.slice av ms.length cv], .int .i64 1]) (by simp [results, Try.results25, go_sem, zc]) rfl ⟨_, ms, HMS.out, rfl, D1, D2⟩
set_option maxHeartbeats 4000000 in
theorem ssetstyle (a : Option Addr) (cap : Nat) (ns : List PN) (z : Int) (f : Nat → Int) (w : World) (hz : Nds w a ns) (hl : szS ns ≤ 1048576) (hf : InR f) (hz0 : -9223372036854775808 ≤ z ∧ z ≤ 9223372036854775807) :
    Calls Try.prog 26 #[.agg #[.slice a ns.length cap], .int .i64 z, .agg (sCells f)] w (ChPost (ssN ns z f) (ssC ns z f) w) := by
  have bb := below_three w (.cells #[.slice a ns.length cap] 26) (.cells (sCells f) 41) (.cells #[.slice none 0 0] 26)
  have h0 := hp_on (hp_on (hp_new w (.cells #[.slice a ns.length cap] 26)) (.cells (sCells f) 41)) (.cells #[.slice none 0 0] 26)
  have h1 := hp_on (hp_new (w.alloc (.cells #[.slice a ns.length cap] 26)) (.cells (sCells f) 41)) (.cells #[.slice none 0 0] 26)
  have h2 := hp_new ((w.alloc (.cells #[.slice a ns.length cap] 26)).alloc (.cells (sCells f) 41)) (.cells #[.slice none 0 0] 26)
  simp only [World.size_alloc] at h1 h2
  obtain ⟨u, eu⟩ : ∃ u, u = (((w.alloc (.cells #[.slice a ns.length cap] 26)).alloc (.cells (sCells f) 41)).alloc (.cells #[.slice none 0 0] 26)) := ⟨_, rfl⟩
  rw [← eu] at bb h0 h1 h2
  have hs : u.heap.size = w.heap.size + 3 := by rw [eu]; simp
  have c0 : u.cell? ⟨w.heap.size, 0, none⟩ = some (.slice a ns.length cap) := (Go.Joins.cell_of_block h0 0).trans rfl
  have KEY : ∀ (w1 v1 : World) (x : Value) (ms : List ND), OwnN u.heap.size x ms w1 → Below u.heap.size u w1 → v1 = w1.alloc (.cells #[x] 26) → SF w u (.slice a ns.length cap) f w1.heap.size x ms v1 := fun w1 v1 x ms ho b1 e => by
    have b2 := bel_alloc w1 (.cells #[x] 26)
    rw [← e] at b2
    have b3 := b1.trans (b2.mono b1.size)
    refine ⟨b3, bb.trans (b3.mono bb.size), hs, b1.size, fun b hb => (ho.1.lt b hb).2, hp_below h0 b3, hp_below h1 b3, hp_below h2 b3, ?_, ho.below b2⟩
    rw [e]; exact hp_new _ _
  have EU := Lib.hid eu
  have HZ := Lib.hid (hz.below bb)
  have KEY' := KEY
  clear KEY
  have KEY := Lib.hid KEY'
  clear KEY'
  clear hz eu bb h0 h1 h2 hs
  have hv : ssN ns z f = (if (nIn ns.length z && treeB ns) = true then if styOk f = true then stySet ns z f else ns else ns) := rfl
  have hc : ssC ns z f = (if (nIn ns.length z && treeB ns) = true then if styOk f = true then 0 else 4 else 1) := rfl
  have HN := Lib.hid (fun h : (nIn ns.length z && treeB ns) = true => nIn_iff.1 (Bool.and_eq_true_iff.1 h).1)
  have KT := Lib.hid (fun w' (h : Nds w' a ns) => streeok a cap ns w' h hl)
  have KI := Lib.hid (fun w' => sl10is a ns.length cap z w')
  have KO := Lib.hid (sstyok f)
  generalize nIn ns.length z = r at *
  generalize treeB ns = t at *
  generalize styOk f = s at *
  rw [hv, hc]
  clear hv hc
  have HF := Lib.hid hf
  cases t
  case' false => rw [Bool.and_false]
  case' true => cases r
  case' true.true => cases s
  case' true.true.true =>
    obtain ⟨k, hzk, hkl⟩ : ∃ k : Nat, z = (k : Int) + 1 ∧ k < ns.length := ⟨(z - 1).toNat, by have := HN.out rfl; omega, by have := HN.out rfl; omega⟩
    subst hzk
    have hw : IntKind.i64.wrap ((k : Int) + 1 - 1) = (k : Int) := by rw [show (k : Int) + 1 - 1 = k by omega]; exact IntWalk.i64_in _ (by omega)
    have hlo : (0 : Int) ≤ (k : Int) := Int.natCast_nonneg _
  all_goals
    go_enter Try.func26, Try.ntmps26
    go_wp2_with (first
      | (rw [← EU.out])
      | (go_at_call 68; refine (sl10copy a cap ns u HZ.out hl).mono ?_; rintro e w1 ⟨v, ms, hms, rfl, ho, b1⟩; obtain ⟨av, cv, rfl⟩ := own_form ho.1; clear c0;
          obtain ⟨v1, ev1⟩ : ∃ v1, v1 = w1.alloc (.cells #[.slice av ms.length cv] 26) := ⟨_, rfl⟩; have S1 := Lib.hid (KEY.out w1 v1 _ ms ho b1 ev1); have EV1 := Lib.hid ev1; clear ev1 b1 ho; have c3 := S1.out.c3; have HMS := Lib.hid hms; clear hms)
      | (rw [← EV1.out])
      | (go_at_call 18; refine (KT.out _ (HZ.out.below S1.out.bu)).mono ?_; rintro e w2 ⟨rfl, b2⟩; have S2 := Lib.hid (S1.out.kept b2); clear b2 c3; have c3 := S2.out.c3; have c8 := S2.out.c8; have c6 := S2.out.c6; have f6 := Go.Joins.unfrozen_of_block S2.out.h6 0)
      | (go_at_call 69; refine (KI.out _).mono ?_; rintro e w2 ⟨rfl, b2⟩; replace S2 := Lib.hid (S2.out.kept b2); clear b2 c3 c8 c6 f6; have c8 := S2.out.c8; have c6 := S2.out.c6; have f6 := Go.Joins.unfrozen_of_block S2.out.h6 0)
      | ((with_reducible apply list_load_sty); exact rfl; exact rfl; exact rfl; (with_reducible exact S2.out.h5); simp only [Act.put, List.setIfInBounds_toArray, List.set_cons_succ, List.set_cons_zero]; clear c8 c6 f6)
      | (go_at_call 78; refine (KO.out _).mono ?_; rintro e w3 ⟨rfl, b3⟩; have S3 := Lib.hid (S2.out.kept b3); clear b3; have c8 := S3.out.c8; have c6 := S3.out.c6; have f6 := Go.Joins.unfrozen_of_block S3.out.h6 0;
          (try (have hkm : k < ms.length := by rw [map_len HMS.out]; exact hkl
                obtain ⟨g, eg⟩ := S3.out.ptr (by omega)
                subst eg
                have hhi : (k : Int) < (ms.length : Int) := by omega
                have TH := Lib.hid (S3.out.thereS hkm))))
      | ((with_reducible apply list_load_sty); exact rfl; exact rfl; exact rfl; (with_reducible exact S3.out.h5); simp only [Act.put, List.setIfInBounds_toArray, List.set_cons_succ, List.set_cons_zero])
      | ((with_reducible apply list_store_styAt); exact rfl; exact rfl; exact rfl; exact rfl; (with_reducible exact TH.out); simp only [Act.put, List.setIfInBounds_toArray, List.set_cons_succ, List.set_cons_zero]; clear c8 c6 f6;
          obtain ⟨w4, ew4⟩ : ∃ w4, w4 = w3.setCells g (k * 64 + 2) (sCells f).toList := ⟨_, rfl⟩; have S4 := Lib.hid (S3.out.styled hkm HF.out ew4); have EW4 := Lib.hid ew4; clear ew4; have c8 := S4.out.c8; have c6 := S4.out.c6; have f6 := Go.Joins.unfrozen_of_block S4.out.h6 0)
      | (rw [← EW4.out]))
  · have D := S4.out.done
    obtain ⟨w5, ew5⟩ : ∃ w5, w5 = w4.setCell ⟨w.heap.size + 1 + 1, 0, none⟩ (.slice (some ⟨g, 0, none⟩) ms.length cv) := ⟨_, rfl⟩
    rw [← ew5] at D ⊢
    obtain ⟨zc, D1, D2⟩ := D
    exact bodyPost_ret (v := .tuple #[.agg #[.slice (some ⟨g, 0, none⟩) ms.length cv], .int .i64 0]) (by simp [results, Try.results26, go_sem, zc]) rfl ⟨_, _, styled_map HMS.out hkm, rfl, D1, D2⟩
  · have D := S3.out.done
    obtain ⟨w5, ew5⟩ : ∃ w5, w5 = w3.setCell ⟨w.heap.size + 1 + 1, 0, none⟩ (.slice av ms.length cv) := ⟨_, rfl⟩
    rw [← ew5] at D ⊢
    obtain ⟨zc, D1, D2⟩ := D
    exact bodyPost_ret (v := .tuple #[.agg #[.slice av ms.length cv], .int .i64 4]) (by simp [results, Try.results26, go_sem, zc]) rfl ⟨_, ms, HMS.out, rfl, D1, D2⟩
  · have D := S2.out.done
    obtain ⟨w5, ew5⟩ : ∃ w5, w5 = w2.setCell ⟨w.heap.size + 1 + 1, 0, none⟩ (.slice av ms.length cv) := ⟨_, rfl⟩
    rw [← ew5] at D ⊢
    obtain ⟨zc, D1, D2⟩ := D
    exact bodyPost_ret (v := .tuple #[.agg #[.slice av ms.length cv], .int .i64 1]) (by simp [results, Try.results26, go_sem, zc]) rfl ⟨_, ms, HMS.out, rfl, D1, D2⟩
  · have D := S2.out.done
    obtain ⟨w5, ew5⟩ : ∃ w5, w5 = w2.setCell ⟨w.heap.size + 1 + 1, 0, none⟩ (.slice av ms.length cv) := ⟨_, rfl⟩
    rw [← ew5] at D ⊢
    obtain ⟨zc, D1, D2⟩ := D
    exact bodyPost_ret (v := .tuple #[.agg #[.slice av ms.length cv], .int .i64 1]) (by simp [results, Try.results26, go_sem, zc]) rfl ⟨_, ms, HMS.out, rfl, D1, D2⟩
end Go.Proofs.Ytckpjldenkjddaa
end
