/-
  The lines of spec.LinesOf, each in a row of its own, in an outer row of the call's own; what a line takes up (spec.l14Outer). Conditions: at most 1048576 items.
-/
import Derived.Test.YtcnmchcleghcgaaLnM
import Derived.Test.YtcnmchcleghcgaaSsA
import Derived.Maps.AppendAt
namespace Go.Proofs.Ytcnmchcleghcgaa
open Go.ChangeShapes Go.WideShapes Go.ChangeAt Go.RowKit
set_option linter.unusedVariables false
set_option linter.unusedSimpArgs false
set_option maxRecDepth 20000

set_option maxHeartbeats 1000000 in
theorem souter14 (a : Option Addr) (cap : Nat) (xs : List It) (b : Option Addr) (len cap2 : Nat) (zs : List Int) (gap : Int) (w : World) (hz : Its w a xs) (hl : xs.length ≤ 1048576) (hs : Ints w b len zs) (hsl : len ≤ 1048576) :
    Calls Try.prog 75 #[.slice a xs.length cap, .slice b len cap2, .int .i64 gap] w fun e w' => e = .returned (.int .i64 (ouV (liV xs zs) (hypL (liV xs zs)) gap)) ∧ Below w.heap.size w w' := by
  have kl := slit a cap xs b len cap2 zs w hz hl hs hsl
  have hinr := liV_inr hz.1 zs
  have hlen : (liV xs zs).length ≤ 1048576 := by have := liV_len xs zs; have := hs.1; omega
  generalize liV xs zs = ys at *
  have HINR := Lib.hid hinr
  clear hz hs hinr
  go_enter Try.func75, Try.ntmps75
  go_wp2_with (fail)
  refine kl.mono ?_
  rintro e w1 ⟨v1, rfl, r1, b1⟩
  obtain ⟨a1, c1, rfl, hz1⟩ := r1.slice HINR.out
  have HZ1 := Lib.hid hz1
  have B1 := Lib.hid b1
  clear kl r1 b1 hz1
  (try dsimp only)
  go_wp2_with (fail)
  refine (shyps_any a1 c1 ys w1 HZ1.out hlen).mono ?_
  rintro e w2 ⟨v2, rfl, r2, b2⟩
  obtain ⟨a2, c2, rfl, hi2⟩ := r2.slice (hypL_all HINR.out)
  rw [hypL_len] at *
  have HI2 := Lib.hid hi2
  have HZ2 := Lib.hid (HZ1.out.below b2)
  have B2 := Lib.hid (B1.out.trans (b2.mono B1.out.size))
  clear r2 b2 hi2 HZ1 B1
  (try dsimp only)
  go_wp2_with (fail)
  refine (souter_any a1 c1 ys a2 ys.length c2 (hypL ys) gap w2 HZ2.out hlen HI2.out hlen).mono ?_
  rintro e w3 ⟨rfl, b3⟩
  have B3 := Lib.hid (B2.out.trans (b3.mono B2.out.size))
  clear b3
  go_wp2
  go_ret
  exact ⟨rfl, B3.out⟩
/-- One list stored. -/
theorem Ss1.set {lo g n cap j : Nat} {L : List (List Int)} {l : List Int} {w : World} {ak : Option Addr} {ck : Nat} (h : Ss1 lo (.slice (some ⟨g, 0, none⟩) n cap) L w) (hn : n = L.length) (hj : j < L.length) (hl : AllI l) (hi : Ints w ak l.length l) (hne : ∀ b off, ak = some ⟨b, off, none⟩ → lo ≤ b ∧ b < w.heap.size ∧ b ≠ g) :
    (∃ q, w.cell? ⟨g, j, none⟩ = some q) ∧ w.frozen? ⟨g, j, none⟩ = false ∧ Ss1 lo (.slice (some ⟨g, 0, none⟩) n cap) (L.set j l) (w.setCell ⟨g, j, none⟩ (.slice ak l.length ck)) := by
  subst hn
  obtain ⟨hall, hs, ho, hn, hk⟩ := h
  have hg : w.grownBy (w.setCell ⟨g, j, none⟩ (.slice ak l.length ck)) (some g) := gr_one w g j _
  have hsz : (w.setCell ⟨g, j, none⟩ (.slice ak l.length ck)).heap.size = w.heap.size := by simp [World.setCell]
  refine ⟨⟨_, (World.ownsRow.cellAt ho j (by omega)).trans (List.getElem?_eq_getElem (by omega))⟩, World.ownsRow.frozenAt ho j, fun q hq => ?_, hs.set j (.slice ak l.length ck), ?_, by rw [List.length_set, List.length_set, hn], fun k q hkq => ?_⟩
  · rcases List.mem_or_eq_of_mem_set hq with hq | hq
    · exact hall q hq
    · rw [hq]; exact hl
  · rw [List.length_set]
    exact (World.ownsRow.stored ho j (.slice ak l.length ck)).1
  · by_cases hkj : k = j
    · subst hkj
      rw [List.getElem?_set_self hj] at hkq
      obtain rfl : l = q := by simpa using hkq
      exact ⟨ak, ck, List.getElem?_set_self (by omega), hi.grownX hg (fun b off e e2 => (hne b off e).2.2 (by injection e2 with e2; exact e2.symm)), fun b off e => ⟨(hne b off e).1, by rw [hsz]; exact (hne b off e).2.1, fun e2 => (hne b off e).2.2 (by injection e2 with e2; exact e2.symm)⟩⟩
    · rw [List.getElem?_set_ne (fun e => hkj e.symm)] at hkq
      obtain ⟨a1, c1, e1, e2, e3⟩ := hk k q hkq
      exact ⟨a1, c1, by rw [List.getElem?_set_ne (fun e => hkj e.symm)]; exact e1, e2.grownX hg (fun b off e => (e3 b off e).2.2), fun b off e => ⟨(e3 b off e).1, by rw [hsz]; exact (e3 b off e).2.1, (e3 b off e).2.2⟩⟩
theorem ln_set {xs : List It} {gap room : Int} {wraps : Bool} {k : Nat} {p : Nat × Nat} (hp : (lnK xs gap room wraps k).getLast? = some p) (hf : fits xs gap room wraps p.1 (k + 1) = true) :
    (lnK xs gap room wraps (k + 1)).map lineI = ((lnK xs gap room wraps k).map lineI).set ((lnK xs gap room wraps k).length - 1) (lineI (p.1, k + 1)) := by
  rw [lnK_succ hp, if_pos hf]
  have hs := getLast_split hp
  generalize lnK xs gap room wraps k = l at *
  generalize l.dropLast = d at *
  subst hs
  simp
theorem ln_new {xs : List It} {gap room : Int} {wraps : Bool} {k : Nat} {p : Nat × Nat} (hp : (lnK xs gap room wraps k).getLast? = some p) (hf : fits xs gap room wraps p.1 (k + 1) = false) :
    (lnK xs gap room wraps (k + 1)).map lineI = (lnK xs gap room wraps k).map lineI ++ [[(k : Int)]] := by
  rw [lnK_succ hp, if_neg (by rw [hf]; decide), List.map_append]
  rw [← lineI_one]; rfl
theorem lit_one (w : World) (z : Int) (hz : -9223372036854775808 ≤ z ∧ z ≤ 9223372036854775807) : Ints (w.alloc (.cells #[.int .i64 z] 3)) (some ⟨w.heap.size, 0, none⟩) 1 [z] := by
  refine ⟨rfl, fun y hy => by rw [List.mem_singleton.1 hy]; exact hz, Or.inr ⟨w.heap.size, 0, rfl, by simp, fun j hj => ?_⟩⟩
  obtain rfl : j = 0 := by omega
  have h := (MapKept.heap_alloc w (.cells #[.int .i64 z] 3)).1
  simp only [World.cell?, h]
  simp
theorem lin_news {w : World} {b o n : Nat} {zs : List Int} (h : Ints w (some ⟨b, o, none⟩) n zs) (hn : zs.length = n) : ∀ j u, (zs.map (Value.int .i64))[j]? = some u → w.cell? ((⟨b, o, none⟩ : Addr).add j) = some u := by
  intro j u hj
  rw [List.getElem?_map] at hj
  obtain ⟨z, e1, rfl⟩ := Option.map_eq_some_iff.1 hj
  have hlt : j < n := by have := (List.getElem?_eq_some_iff.1 e1).1; omega
  obtain ⟨b', o', ha, _, hc⟩ := h.look hlt
  simp at ha
  obtain ⟨rfl, rfl⟩ := ha
  rw [show zs.getD j 0 = z by simp [List.getD, e1]] at hc
  have e : ((⟨b, o, none⟩ : Addr).add j) = ⟨b, o + j, none⟩ := by cases j <;> simp [Addr.add]
  rw [e]; exact hc
theorem one_two (wr : World) (o : Obj) (x : Value) (e : TypeId) : ∀ j u, [x][j]? = some u → ((wr.alloc o).alloc (.cells #[x] e)).cell? ((⟨wr.heap.size + 1, 0, none⟩ : Addr).add j) = some u := by
  intro j u h
  have := one_intP (wr.alloc o) x e j u h
  rwa [World.size_alloc] at this
def LnsRel (xs : List It) (gap room : Int) (wraps : Bool) (w : World) (v i : Value) (wr : World) : Prop :=
  ∃ k : Nat, k ≤ xs.length ∧ i = .int .i64 k ∧ Ss1 w.heap.size v ((lnK xs gap room wraps k).map lineI) wr ∧ Below w.heap.size w wr
set_option maxHeartbeats 8000000 in
theorem slines (a : Option Addr) (cap : Nat) (xs : List It) (gap room : Int) (wraps : Bool) (w : World) (hz : Its w a xs) (hl : xs.length ≤ 1048576) :
    Calls Try.prog 40 #[.slice a xs.length cap, .int .i64 gap, .int .i64 room, .bool wraps] w (OutPostS (lnL xs gap room wraps) w) := by
  obtain ⟨i0, hi, hz0, hz1, hz2⟩ := info_parts info_intP
  obtain ⟨is, his, hs0, hs1, hs2⟩ := info_parts info_ints
  have HZ := Lib.hid hz
  clear hz
  go_enter Try.func40, Try.ntmps40
  go_wp2
  have hr0 : Ss1 w.heap.size (.slice (some ⟨w.heap.size, 0, none⟩) 0 0) ((lnK xs gap room wraps 0).map lineI) (w.alloc (.cells #[] 25)) := by
    have ho : (w.alloc (.cells #[] 25)).ownsRow w.heap.size 25 1 (.slice (some ⟨w.heap.size, 0, none⟩) 0 0) 0 [] := World.ownsRow_lit w #[] 0 (Nat.le_refl _) (by unfold maxLen; omega) rfl
    exact ⟨(fun l h => by cases h), [], ho, rfl, (fun k l h => by cases h)⟩
  have hu0 : Below w.heap.size w (w.alloc (.cells #[] 25)) := (Below.refl _ _).alloc (Nat.le_refl _) _
  have HR0 := Lib.hid hr0
  have HU0 := Lib.hid hu0
  clear hr0 hu0
  generalize w.alloc (.cells #[] 25) = w0 at *
  go_loopw [9, 10] (LnsRel xs gap room wraps w) (fun _ i _ => xs.length - (intOf i).toNat)
  case atStart => exact ⟨0, Nat.zero_le _, rfl, HR0.out, HU0.out⟩
  case round =>
    clear HR0 HU0
    obtain ⟨k, hk, rfl, hr, hb⟩ := hrel
    have HB := Lib.hid hb
    obtain ⟨av, cv, ev, hss⟩ := hr.read
    rw [List.length_map] at ev
    subst ev
    have HR := Lib.hid hr
    have HSS := Lib.hid hss
    clear hr hss
    by_cases hlt : k < xs.length
    · have hlo : (0 : Int) ≤ (k : Int) := Int.natCast_nonneg _
      have hhi : (k : Int) < (xs.length : Int) := by omega
      by_cases h0 : k = 0
      · subst h0
        have hr0 : Ss1 w.heap.size (.slice av 0 cv) ((lnK xs gap room wraps 0).map lineI) wr := HR.out
        have HR := Lib.hid hr0
        clear hr0
        rw [show (lnK xs gap room wraps 0).length = 0 from rfl]
        have hA := HR.out
        obtain ⟨hall, hs, ho, hn, hk2⟩ := hA
        have HO := Lib.hid ho
        have HN := Lib.hid hn
        have HK := Lib.hid hk2
        have HALL := Lib.hid hall
        have hll := lnK_len (xs := xs) (gap := gap) (room := room) (wraps := wraps) 0
        have HLL := Lib.hid (show ((lnK xs gap room wraps 0).map lineI).length ≤ 1048576 by rw [List.length_map]; omega)
        have hsz := HB.out.size
        clear ho hn hk2 hall hll
        go_wp2_with (at_builtin; refine wpList_append_own_at _ rfl _ _ 55 rfl w.heap.size 25 is (.slice none 0 0) 1 24 Try.underlying55 his hs0 hs1 hs2 rfl (by decide) _ _ _ rfl (World.ownsRow.alloc (World.ownsRow.alloc HO.out _) _) ⟨wr.heap.size + 1, 0, none⟩ 1 1 [.slice (some ⟨wr.heap.size, 0, none⟩) 1 1] rfl rfl (one_two _ _ _ _) ?c2a ?c3a ?c4a ?c5a ?_)
        case c2a => intro u hu; simp at hu; subst hu; rfl
        case c3a => unfold maxLen; have := HLL.out; omega
        case c4a => have := HLL.out; omega
        case c5a => simp; omega
        intro v' w3 hown3 hgr _ hloc
        have hb1 : Below wr.heap.size wr (wr.alloc (.cells #[.int .i64 0] 3)) := (Below.refl _ _).alloc (Nat.le_refl _) _
        have hb2 : Below wr.heap.size wr ((wr.alloc (.cells #[.int .i64 0] 3)).alloc (.cells #[.slice (some ⟨wr.heap.size, 0, none⟩) 1 1] 25)) := hb1.alloc hb1.size _
        have hi1 : Ints ((wr.alloc (.cells #[.int .i64 0] 3)).alloc (.cells #[.slice (some ⟨wr.heap.size, 0, none⟩) 1 1] 25)) (some ⟨wr.heap.size, 0, none⟩) 1 [(0 : Int)] := (lit_one wr 0 (by omega)).below ((Below.refl _ _).alloc (Nat.le_refl _) _)
        have S3 := Lib.hid (show Ss1 w.heap.size v' ((lnK xs gap room wraps (0 + 1)).map lineI) w3 by
          rw [show (lnK xs gap room wraps 1).map lineI = [] ++ [[(0 : Int)]] from rfl]
          exact Ss1.push (l := [(0 : Int)]) (ak := some ⟨wr.heap.size, 0, none⟩) (ck := 1) HALL.out (by intro z hz; simp at hz; omega) HN.out (fun q l h => by
            obtain ⟨a1, c1, e1, e2, e3⟩ := HK.out q l h
            exact ⟨a1, c1, e1, e2.below hb2, fun b off e => ⟨(e3 b off e).1, Nat.lt_of_lt_of_le (e3 b off e).2.1 hb2.size, (e3 b off e).2.2⟩⟩) hown3 hgr hi1 (fun b off e => by
            simp at e
            obtain ⟨rfl, _⟩ := e
            refine ⟨hsz, by simp; omega, fun e2 => ?_⟩
            have := (World.ownsRow.lt HO.out _ e2).2
            omega) (by simpa using hloc))
        have B3 := Lib.hid ((HB.out.trans (hb2.mono HB.out.size)).grown hgr (by simp; omega) (fun g hg => (World.ownsRow.lt HO.out g hg).1))
        clear hown3 hgr hloc hi1 hb1 hb2
        go_wp2
        go_roundw
        case rel => exact ⟨0 + 1, by omega, by go_num, S3.out, B3.out⟩
        case measure => simp [intOf]; omega
      ·
        obtain ⟨p, hp, hp2, hp1⟩ := (lnK_ok (xs := xs) (gap := gap) (room := room) (wraps := wraps) k).some (by omega)
        obtain ⟨m', hm'⟩ : ∃ m', (lnK xs gap room wraps k).length = m' + 1 := by
          cases hq : lnK xs gap room wraps k with
          | nil => rw [hq] at hp; cases hp
          | cons x l => exact ⟨l.length, rfl⟩
        have hml := lnK_len (xs := xs) (gap := gap) (room := room) (wraps := wraps) k
        obtain ⟨g, rfl⟩ : ∃ g, av = some ⟨g, 0, none⟩ := by
          obtain ⟨_, hs, ho, _⟩ := HR.out
          rcases ho.2 with ⟨h1, h2⟩ | ⟨g, c, _, h1, _⟩
          · have h2' : ((lnK xs gap room wraps k).map lineI).length = 0 := h2
            rw [List.length_map, hm'] at h2'; omega
          · injection h1 with e1 _ _; exact ⟨g, e1⟩
        have hgl := hb.size
        have HGL := Lib.hid (show w.heap.size ≤ g by
          obtain ⟨_, hs, ho, _⟩ := HR.out
          exact (World.ownsRow.lt ho g rfl).1)
        have HGS := Lib.hid (show g < wr.heap.size by
          obtain ⟨_, hs, ho, _⟩ := HR.out
          exact (World.ownsRow.lt ho g rfl).2)
        have hr1 : Ss1 w.heap.size (.slice (some ⟨g, 0, none⟩) (m' + 1) cv) ((lnK xs gap room wraps k).map lineI) wr := by have := HR.out; rwa [hm'] at this
        have HRM := Lib.hid hr1
        clear hr1 HR
        rw [hm']
        obtain ⟨u1, eu1⟩ : ∃ q, q = wr.alloc (.cells #[] 3) := ⟨_, rfl⟩
        have bu1 : Below wr.heap.size wr u1 := eu1 ▸ (Below.refl _ _).alloc (Nat.le_refl _) _
        have hlit : u1.ownsRow wr.heap.size 3 1 (.slice (some ⟨wr.heap.size, 0, none⟩) 0 0) 0 [] := eu1 ▸ World.ownsRow_lit wr #[] 0 (Nat.le_refl _) (by unfold maxLen; omega) rfl
        have EU1 := Lib.hid eu1
        have HLIT := Lib.hid hlit
        have BU1 := Lib.hid bu1
        obtain ⟨bq, oq, ak, ck, e1, hbq, hcell, hints⟩ := (HSS.out.below bu1).look (k := m') (by rw [List.length_map, hm']; omega)
        rw [show lnD ((lnK xs gap room wraps k).map lineI) m' = lineI p from lnD_last hp hm'] at hcell hints
        simp at e1
        obtain ⟨rfl, rfl⟩ := e1
        rw [Nat.zero_add] at hcell
        have hlp : (lineI p).length = k - p.1 := by rw [lineI_len, hp2]
        rw [hlp] at hcell hints
        obtain ⟨b1, o1, rfl, hb1, _⟩ := hints.look (k := 0) (by omega)
        have HNEWS := Lib.hid (show ∀ j u, ((lineI p).map (Value.int .i64))[j]? = some u → u1.cell? ((⟨b1, o1, none⟩ : Addr).add j) = some u from lin_news hints hlp)
        have HIP := Lib.hid hlp
        have hk1 : k - p.1 ≤ 1048576 := by omega
        clear eu1 hlit bu1 hints hlp
        go_wp2_with (first
          | (rw [← EU1.out])
          | (at_builtin; refine wpList_append_own _ rfl _ _ 25 rfl wr.heap.size 3 i0 (.int .i64 0) 1 8 Try.underlying25 hi hz0 hz1 hz2 rfl (by decide) _ _ _ rfl HLIT.out ⟨b1, o1, none⟩ (k - p.1) ck ((lineI p).map (Value.int .i64)) rfl ?a1 HNEWS.out ?a2 ?a3 ?a4 ?a5 ?_))
        case a1 => rw [List.length_map, HIP.out]; omega
        case a2 =>
          intro u hu
          obtain ⟨z, _, rfl⟩ := List.mem_map.1 hu
          rfl
        case a3 => unfold maxLen; omega
        case a4 => omega
        case a5 => exact BU1.out.size
        intro v30 u2 hown2 hgr2 _
        have bu2 : Below wr.heap.size wr u2 := BU1.out.grown hgr2 BU1.out.size (fun q hq => (World.ownsRow.lt HLIT.out q hq).1)
        have HOWN2 := Lib.hid hown2
        have BU2 := Lib.hid bu2
        clear hown2 hgr2 bu2 hcell
        go_wp2_with (at_builtin; refine wpList_append_own _ rfl _ _ 25 rfl wr.heap.size 3 i0 (.int .i64 0) 1 8 Try.underlying25 hi hz0 hz1 hz2 rfl (by decide) _ _ _ rfl (World.ownsRow.alloc HOWN2.out _) ⟨u2.heap.size, 0, none⟩ 1 1 [.int .i64 (k : Int)] rfl rfl (one_intP _ _ _) ?d2 ?d3 ?d4 ?d5 ?_)
        case d2 => intro u hu; simp at hu; subst hu; rfl
        case d3 => unfold maxLen; omega
        case d4 => omega
        case d5 => have := BU2.out.size; simp; omega
        intro v33 w6 hown6 hgr6 _
        have hsn : lineI p ++ [(k : Int)] = lineI (p.1, k + 1) := by rw [lineI_snoc (by omega)]; rw [← hp2]
        have hLL : (lineI (p.1, k + 1)).length = k + 1 - p.1 := by rw [lineI_len]
        have r6 : RowI wr.heap.size v33 (lineI (p.1, k + 1)) w6 := by
          unfold RowI
          rw [← hsn, List.length_append, List.map_append, HIP.out]
          simpa using hown6
        have hal : AllI (lineI (p.1, k + 1)) := lineI_all (by show k + 1 ≤ 1048576; omega)
        have bu6 : Below wr.heap.size wr w6 := (BU2.out.alloc BU2.out.size (.cells #[.int .i64 (k : Int)] 3)).grown hgr6 (by have := BU2.out.size; simp; omega) (fun q hq => (World.ownsRow.lt HOWN2.out q hq).1)
        have hbl6 := fun q (hq : v33.ownBlock = some q) => World.ownsRow.lt r6 q hq
        obtain ⟨al, cl, rfl, hz6⟩ := r6.slice hal
        have HNE := Lib.hid (fun b off (e : al = some ⟨b, off, none⟩) => (by
          subst e
          rcases r6.2 with ⟨h1, _⟩ | ⟨q, c, _, h1, _⟩
          · cases h1
          · injection h1 with e1 _ _
            injection e1 with e1; injection e1 with e1 e2 _
            subst e1 e2
            have h3 := hbl6 b rfl
            have h4 := HGS.out
            exact ⟨by omega, h3.2, by omega⟩) : ∀ b off, al = some ⟨b, off, none⟩ → w.heap.size ≤ b ∧ b < w6.heap.size ∧ b ≠ g)
        have HAL := Lib.hid hal
        have HZ6 := Lib.hid hz6
        have HR6 := Lib.hid (HRM.out.below bu6)
        have HB6 := Lib.hid (HB.out.trans (bu6.mono HB.out.size))
        clear r6 hown6 hgr6 hal hz6 bu6 hbl6 HOWN2 BU2 HLIT EU1 BU1 HNEWS HRM hb
        rw [hLL]
        cases wraps with
        | false =>
          obtain ⟨⟨qs, cs⟩, fs, hset⟩ := HR6.out.set (j := m') (ck := cl) (by rw [List.length_map, hm']) (by rw [List.length_map, hm']; omega) HAL.out HZ6.out HNE.out
          have HSET := Lib.hid (show Ss1 w.heap.size (.slice (some ⟨g, 0, none⟩) (m' + 1) cv) ((lnK xs gap room false (k + 1)).map lineI) _ by
            rw [ln_set hp (by unfold fits brk; rfl), hm', Nat.add_sub_cancel]; exact hset)
          have HBS := Lib.hid (bl_set HB6.out (g := g) m' HGL.out (.slice al (lineI (p.1, k + 1)).length cl))
          rw [hLL] at HSET HBS
          clear hset
          (try dsimp only)
          go_wp2_with (fail)
          go_roundw
          case rel => exact ⟨k + 1, by omega, by go_num, HSET.out, HBS.out⟩
          case measure => simp [intOf]; omega
        | true =>
          by_cases hrm : room < 0
          ·
            obtain ⟨⟨qs, cs⟩, fs, hset⟩ := HR6.out.set (j := m') (ck := cl) (by rw [List.length_map, hm']) (by rw [List.length_map, hm']; omega) HAL.out HZ6.out HNE.out
            have HSET := Lib.hid (show Ss1 w.heap.size (.slice (some ⟨g, 0, none⟩) (m' + 1) cv) ((lnK xs gap room true (k + 1)).map lineI) _ by
              rw [ln_set hp (by unfold fits brk; rw [decide_eq_false (by omega : ¬ 0 ≤ room)]; rfl), hm', Nat.add_sub_cancel]; exact hset)
            have HBS := Lib.hid (bl_set HB6.out (g := g) m' HGL.out (.slice al (lineI (p.1, k + 1)).length cl))
            rw [hLL] at HSET HBS
            clear hset
            (try dsimp only)
            go_wp2_with (fail)
            go_roundw
            case rel => exact ⟨k + 1, by omega, by go_num, HSET.out, HBS.out⟩
            case measure => simp [intOf]; omega
          · have hrd : decide (0 ≤ room) = true := decide_eq_true (by omega)
            have HRD := Lib.hid hrd
            have kk := sitsok a cap xs w6 (HZ.out.below HB6.out) (by omega)
            have HOK := Lib.hid (show brk xs room true = itsOk xs by unfold brk; rw [HRD.out]; rfl)
            generalize itsOk xs = ok at *
            clear hrd
            go_wp2_with (fail)
            refine kk.mono ?_
            rintro e w7 ⟨rfl, b7⟩
            have HB7 := Lib.hid (HB6.out.trans (b7.mono HB6.out.size))
            have HR7 := Lib.hid (HR6.out.below b7)
            have HZ7 := Lib.hid (HZ6.out.below b7)
            have HN7 := Lib.hid (fun b off (e : al = some ⟨b, off, none⟩) => (⟨(HNE.out b off e).1, Nat.lt_of_lt_of_le (HNE.out b off e).2.1 b7.size, (HNE.out b off e).2.2⟩ : w.heap.size ≤ b ∧ b < w7.heap.size ∧ b ≠ g))
            clear kk b7 HZ6 HR6 HB6 HNE
            cases ok with
            | false =>
              obtain ⟨⟨qs, cs⟩, fs, hset⟩ := HR7.out.set (j := m') (ck := cl) (by rw [List.length_map, hm']) (by rw [List.length_map, hm']; omega) HAL.out HZ7.out HN7.out
              have HSET := Lib.hid (show Ss1 w.heap.size (.slice (some ⟨g, 0, none⟩) (m' + 1) cv) ((lnK xs gap room true (k + 1)).map lineI) _ by
                rw [ln_set hp (by unfold fits; rw [HOK.out]; rfl), hm', Nat.add_sub_cancel]; exact hset)
              have HBS := Lib.hid (bl_set HB7.out (g := g) m' HGL.out (.slice al (lineI (p.1, k + 1)).length cl))
              rw [hLL] at HSET HBS
              clear hset
              (try dsimp only)
              go_wp2_with (fail)
              go_roundw
              case rel => exact ⟨k + 1, by omega, by go_num, HSET.out, HBS.out⟩
              case measure => simp [intOf]; omega
            | true =>
              have ko := souter14 a cap xs al (k + 1 - p.1) cl (lineI (p.1, k + 1)) gap w7 (HZ.out.below HB7.out) hl (by have := HZ7.out; rwa [hLL] at this) (by omega)
              rw [liV_line (by omega : p.1 ≤ k + 1) (by omega)] at ko
              obtain ⟨o, eo⟩ : ∃ q, q = segO xs gap p.1 (k + 1) := ⟨_, rfl⟩
              have ko' : Calls Try.prog 75 #[.slice a xs.length cap, .slice al (k + 1 - p.1) cl, .int .i64 gap] w7 fun e w' => e = .returned (.int .i64 o) ∧ Below w7.heap.size w7 w' := by rw [eo]; exact ko
              have EO := Lib.hid eo
              have KO := Lib.hid ko'
              clear ko ko' eo
              (try dsimp only)
              go_wp2_with (fail)
              refine KO.out.mono ?_
              rintro e w8 ⟨rfl, b8⟩
              have HB8 := Lib.hid (HB7.out.trans (b8.mono HB7.out.size))
              have HR8 := Lib.hid (HR7.out.below b8)
              have HZ8 := Lib.hid (HZ7.out.below b8)
              have HN8 := Lib.hid (fun b off (e : al = some ⟨b, off, none⟩) => (⟨(HN7.out b off e).1, Nat.lt_of_lt_of_le (HN7.out b off e).2.1 b8.size, (HN7.out b off e).2.2⟩ : w.heap.size ≤ b ∧ b < w8.heap.size ∧ b ≠ g))
              clear KO b8 HZ7 HR7 HB7 HN7
              by_cases ho : o ≤ room
              ·
                obtain ⟨⟨qs, cs⟩, fs, hset⟩ := HR8.out.set (j := m') (ck := cl) (by rw [List.length_map, hm']) (by rw [List.length_map, hm']; omega) HAL.out HZ8.out HN8.out
                have HSET := Lib.hid (show Ss1 w.heap.size (.slice (some ⟨g, 0, none⟩) (m' + 1) cv) ((lnK xs gap room true (k + 1)).map lineI) _ by
                  rw [ln_set hp (by unfold fits; rw [← EO.out, decide_eq_true ho, Bool.or_true]), hm', Nat.add_sub_cancel]; exact hset)
                have HBS := Lib.hid (bl_set HB8.out (g := g) m' HGL.out (.slice al (lineI (p.1, k + 1)).length cl))
                rw [hLL] at HSET HBS
                clear hset
                (try dsimp only)
                go_wp2_with (fail)
                go_roundw
                case rel => exact ⟨k + 1, by omega, by go_num, HSET.out, HBS.out⟩
                case measure => simp [intOf]; omega
              · have HFN := Lib.hid (show fits xs gap room true p.1 (k + 1) = false by unfold fits; rw [HOK.out, ← EO.out, decide_eq_false ho]; rfl)
                have ho2 : room < o := by omega
                clear HZ8 HN8 HAL ho
                have hA := HR8.out
                obtain ⟨hall, hs, ho, hn, hk2⟩ := hA
                have HO := Lib.hid ho
                have HN := Lib.hid hn
                have HK := Lib.hid hk2
                have HALL := Lib.hid hall
                have hll := lnK_len (xs := xs) (gap := gap) (room := room) (wraps := true) k
                have HLL := Lib.hid (show ((lnK xs gap room true k).map lineI).length ≤ 1048576 by rw [List.length_map]; omega)
                have hsz := HB8.out.size
                clear ho hn hk2 hall hll
                go_wp2_with (at_builtin; refine wpList_append_own_at _ rfl _ _ 55 rfl w.heap.size 25 is (.slice none 0 0) 1 24 Try.underlying55 his hs0 hs1 hs2 rfl (by decide) _ _ _ rfl (World.ownsRow.alloc (World.ownsRow.alloc HO.out _) _) ⟨w8.heap.size + 1, 0, none⟩ 1 1 [.slice (some ⟨w8.heap.size, 0, none⟩) 1 1] rfl rfl (one_two _ _ _ _) ?c2b ?c3b ?c4b ?c5b ?_)
                case c2b => intro u hu; simp at hu; subst hu; rfl
                case c3b => unfold maxLen; have := HLL.out; omega
                case c4b => have := HLL.out; omega
                case c5b => simp; omega
                intro v' w3 hown3 hgr _ hloc
                have hb1 : Below w8.heap.size w8 (w8.alloc (.cells #[.int .i64 k] 3)) := (Below.refl _ _).alloc (Nat.le_refl _) _
                have hb2 : Below w8.heap.size w8 ((w8.alloc (.cells #[.int .i64 k] 3)).alloc (.cells #[.slice (some ⟨w8.heap.size, 0, none⟩) 1 1] 25)) := hb1.alloc hb1.size _
                have hi1 : Ints ((w8.alloc (.cells #[.int .i64 k] 3)).alloc (.cells #[.slice (some ⟨w8.heap.size, 0, none⟩) 1 1] 25)) (some ⟨w8.heap.size, 0, none⟩) 1 [(k : Int)] := (lit_one w8 k (by omega)).below ((Below.refl _ _).alloc (Nat.le_refl _) _)
                have S3 := Lib.hid (show Ss1 w.heap.size v' ((lnK xs gap room true (k + 1)).map lineI) w3 by
                  rw [ln_new hp HFN.out]
                  exact Ss1.push (l := [(k : Int)]) (ak := some ⟨w8.heap.size, 0, none⟩) (ck := 1) HALL.out (by intro z hz; simp at hz; omega) HN.out (fun q l h => by
                    obtain ⟨a1, c1, e1, e2, e3⟩ := HK.out q l h
                    exact ⟨a1, c1, e1, e2.below hb2, fun b off e => ⟨(e3 b off e).1, Nat.lt_of_lt_of_le (e3 b off e).2.1 hb2.size, (e3 b off e).2.2⟩⟩) (by rw [List.length_map, hm']; exact hown3) hgr hi1 (fun b off e => by
                    simp at e
                    obtain ⟨rfl, _⟩ := e
                    refine ⟨hsz, by simp; omega, fun e2 => ?_⟩
                    have := (World.ownsRow.lt HO.out _ e2).2
                    omega) (by simpa using hloc))
                have B3 := Lib.hid ((HB8.out.trans (hb2.mono HB8.out.size)).grown hgr (by simp; omega) (fun g hg => (World.ownsRow.lt HO.out g hg).1))
                clear hown3 hgr hloc hi1 hb1 hb2
                go_wp2
                go_roundw
                case rel => exact ⟨k + 1, by omega, by go_num, S3.out, B3.out⟩
                case measure => simp [intOf]; omega
    · obtain rfl : k = xs.length := by omega
      clear HSS
      go_wp2
      go_ret
      exact ⟨_, rfl, HR.out, hb⟩
end Go.Proofs.Ytcnmchcleghcgaa
