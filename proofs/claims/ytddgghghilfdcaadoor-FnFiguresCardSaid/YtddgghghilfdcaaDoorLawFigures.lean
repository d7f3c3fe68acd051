/-
  For every code of bytes, laws.FnFigures returns true: what is encoded comes back, in hexadecimal and in decimal, and what is brought between lies between; the code reads as before (the tied card). Conditions: the library's listed tables start as the program's text lays them, which the card ties.
-/
import Derived.Test.YtddgghghilfdcaaDoorLaid
import Derived.Test.YtddgghghilfdcaaDoorPlaces
import Derived.Test.YtddgghghilfdcaaDoorCodeIn
import Derived.Test.YtddgghghilfdcaaDoorFigM
import Derived.Test.YtddgghghilfdcaaDoorUnhI
import Derived.Test.YtddgghghilfdcaaDoorHexI
import Derived.Test.YtddgghghilfdcaaDoorReadDecI
import Derived.Test.YtddgghghilfdcaaDoorBro
import Derived.Deep.RegionHeld
namespace Go.Proofs.YtddgghghilfdcaaDoor.fnFigures
open Go.ChangeShapes Go.WideShapes Go.ChangeAt Go.RowKit

theorem ownI_at {base : Nat} {v : Value} {xs : List Int} {w : World} (h : OwnI base v xs w) (h0 : 0 < xs.length) : ∃ g cap, v = .slice (some ⟨g, 0, none⟩) xs.length cap ∧ base ≤ g ∧ g < w.heap.size ∧ ∀ j, j < xs.length → w.cell? ⟨g, j, none⟩ = some (.int .i64 (xs.getD j 0)) := by
  rcases h.2 with ⟨_, h2⟩ | ⟨g, cap, cur, rfl, hg, _⟩
  · omega
  · refine ⟨g, cap, rfl, hg, (World.ownsRow.lt h g rfl).2, fun j hj => ?_⟩
    rw [World.ownsRow.cellAt h j (by omega)]
    simp [hj]
theorem inR_at {xs : List Int} (h : InR xs) (j : Nat) : 0 ≤ xs.getD j 0 ∧ xs.getD j 0 ≤ 9999 := by
  by_cases hj : j < xs.length
  · have := h xs[j] (List.getElem_mem hj)
    simpa [List.getD, hj] using this
  · simp [List.getD, List.getElem?_eq_none (Nat.le_of_not_lt hj)]

theorem two_at (W : World) (B : Nat) (x y : Int) (h : W.heap[B]? = some (.cells #[.int .u8 x, .int .u8 y] 5 (0, 0))) :
    (convert 22 9 (.slice (some ⟨B, 0, none⟩) 2 2)).run Tryd.prog W = .ok (.string ⟨[UInt8.ofNat x.toNat, UInt8.ofNat y.toNat].toArray⟩) W := by
  rw [run_convert_bytes_string _ _ _ 5 _ _ _ Tryd.underlying22 Tryd.underlying5 Tryd.underlying9]
  have hld : (loadCells ⟨B, 0, none⟩ 2).run Tryd.prog W = .ok ([x, y].map (Value.int .u8)).toArray W :=
    run_loadCells_list _ _ [Value.int .u8 x, Value.int .u8 y] (fun j v hj => by
      match j with
      | 0 => simp at hj; subst hj; simp [Addr.add, World.cell?, h]
      | 1 => simp at hj; subst hj; simp [Addr.add, World.cell?, h]
      | j + 2 => simp at hj)
  rw [run_bytesToString _ _ _ _ [x, y] hld]
  rfl
theorem two_bytes (W : World) (x y : Int) : (convert 22 9 (.slice (some ⟨W.heap.size, 0, none⟩) 2 2)).run Tryd.prog (W.alloc (.cells #[.int .u8 x, .int .u8 y] 5)) = .ok (.string ⟨[UInt8.ofNat x.toNat, UInt8.ofNat y.toNat].toArray⟩) (W.alloc (.cells #[.int .u8 x, .int .u8 y] 5)) :=
  two_at _ _ _ _ (MapKept.heap_alloc W _).1
theorem two_drew (W : World) (x y : Int) : (convert 22 9 (.slice (some ⟨W.heap.size, 0, none⟩) 2 2)).run Tryd.prog (W.alloc (.cells #[.int .u8 x, .int .u8 y] 5)).drew = .ok (.string ⟨[UInt8.ofNat x.toNat, UInt8.ofNat y.toNat].toArray⟩) (W.alloc (.cells #[.int .u8 x, .int .u8 y] 5)).drew :=
  two_at _ _ _ _ (MapKept.heap_alloc W _).1
theorem lt_alloc (W : World) (o : Obj) : W.heap.size < (W.alloc o).heap.size := by simp
theorem two_later {W w2 : World} {x y : Int} (hb : Below (W.alloc (.cells #[.int .u8 x, .int .u8 y] 5)).drew.heap.size (W.alloc (.cells #[.int .u8 x, .int .u8 y] 5)).drew w2) :
    (convert 22 9 (.slice (some ⟨W.heap.size, 0, none⟩) 2 2)).run Tryd.prog w2 = .ok (.string ⟨[UInt8.ofNat x.toNat, UInt8.ofNat y.toNat].toArray⟩) w2 :=
  two_at _ _ _ _ ((hb.block W.heap.size (lt_alloc W _)).trans (MapKept.heap_alloc W _).1)
theorem keepA {W w2 : World} {g : Nat} {x y z : Value} (hb : Below W.drew.heap.size W.drew w2) (hg : g < W.heap.size) (c5 : W.cell? ⟨g, 5, none⟩ = some x) (c6 : W.cell? ⟨g, 6, none⟩ = some y) (c7 : W.cell? ⟨g, 7, none⟩ = some z) :
    w2.cell? ⟨g, 5, none⟩ = some x ∧ w2.cell? ⟨g, 6, none⟩ = some y ∧ w2.cell? ⟨g, 7, none⟩ = some z :=
  ⟨(hb.cell (p := ⟨g, 5, none⟩) hg).trans c5, (hb.cell (p := ⟨g, 6, none⟩) hg).trans c6, (hb.cell (p := ⟨g, 7, none⟩) hg).trans c7⟩
theorem keepB {W w2 : World} {o : Obj} {g : Nat} {x y z : Value} (hb : Below (W.alloc o).drew.heap.size (W.alloc o).drew w2) (hg : g < W.heap.size) (c5 : W.cell? ⟨g, 5, none⟩ = some x) (c6 : W.cell? ⟨g, 6, none⟩ = some y) (c7 : W.cell? ⟨g, 7, none⟩ = some z) :
    w2.cell? ⟨g, 5, none⟩ = some x ∧ w2.cell? ⟨g, 6, none⟩ = some y ∧ w2.cell? ⟨g, 7, none⟩ = some z := by
  have hl : g < (W.alloc o).drew.heap.size := Nat.lt_trans hg (lt_alloc W o)
  have ho := (Below.refl W.heap.size W).alloc (Nat.le_refl _) o
  exact ⟨(hb.cell (p := ⟨g, 5, none⟩) hl).trans ((ho.cell (p := ⟨g, 5, none⟩) hg).trans c5), (hb.cell (p := ⟨g, 6, none⟩) hl).trans ((ho.cell (p := ⟨g, 6, none⟩) hg).trans c6), (hb.cell (p := ⟨g, 7, none⟩) hl).trans ((ho.cell (p := ⟨g, 7, none⟩) hg).trans c7)⟩

theorem ihex_l (l : List UInt8) (w : World) (h : l.length ≤ 20000) :
    Calls Tryd.prog 8 #[.string ⟨l.toArray⟩] w fun e w' => e = .returned (.tuple #[.string ⟨(Nums.hexL l).toArray⟩, .bool true]) ∧ Below w.heap.size w w' := by
  have h1 := ihex_any ⟨l.toArray⟩ w (by rw [← Nums.len_eq]; simpa using h)
  simpa using h1
theorem iun_l (l : List UInt8) (w : World) (h : l.length ≤ 20000) :
    Calls Tryd.prog 9 #[.string ⟨(Nums.hexL l).toArray⟩] w fun e w' => e = .returned (.tuple #[.string ⟨l.toArray⟩, .bool true]) ∧ Below w.heap.size w w' := by
  have hb := Nums.unB_hex l h
  have hs : (⟨(Nums.hexL l).toArray⟩ : ByteArray).size = 2 * l.length := by rw [← Nums.len_eq]; simpa using Nums.hexL_len l
  have h1 := iun_any ⟨(Nums.hexL l).toArray⟩ w (by rw [hs]; unfold maxLen; omega)
  have e : unR ⟨(Nums.hexL l).toArray⟩ = .tuple #[.string ⟨l.toArray⟩, .bool true] := by
    unfold unR; rw [hb]
    have := (Nums.un_hex l).1
    simp [this]
  rwa [e] at h1
theorem ird_l (n : Nat) (x : Int) (w : World) (hx : x = (n : Int)) (h : n ≤ 1000000000) :
    Calls Tryd.prog 10 #[.string ⟨(Lib.itoa x).toArray⟩] w fun e w' => e = .returned (.tuple #[.int .i64 x, .bool true]) ∧ w = w' := by
  subst hx
  obtain ⟨h2, h3⟩ := Nums.rd_itoa n h
  have hl := Lib.itoa_length_le (n : Int) (by omega) (by omega)
  have h1 := ird_any ⟨(Lib.itoa (n : Int)).toArray⟩ w (by rw [← Nums.len_eq]; unfold maxLen; simp; omega)
  have e : (⟨(Lib.itoa (n : Int)).toArray⟩ : ByteArray).data.toList = Lib.itoa (n : Int) := by simp
  rwa [e, h2, h3] at h1

set_option maxRecDepth 100000 in
set_option maxHeartbeats 2000000 in
theorem walk (a : Option Addr) (len cap : Nat) (w : World) (hl : len ≤ 1048576) (hc : Code w a len) (ht : Ito.Tab w) :
    Calls Tryd.prog 3 #[.slice a len cap] w fun e w' => e = .returned (.bool true) ∧ Below w.heap.size w w' := by
  go_enter Tryd.func3, Tryd.ntmps3
  go_wp2_with (first | (go_at_call 6; refine (places_any a len cap w hl hc).mono ?_; rintro e w1 ⟨v, xs, rfl, hxl, hin, hown, hb1⟩) | go_in)
  obtain ⟨g, cp, rfl, hg0, hg1, hcell⟩ := ownI_at hown (by omega)
  rw [hxl] at hcell ⊢
  have ht1 := ht.below hb1
  have c5 := hcell 5 (by omega)
  have c6 := hcell 6 (by omega)
  have c7 := hcell 7 (by omega)
  have b5 := inR_at hin 5
  have b6 := inR_at hin 6
  have b7 := inR_at hin 7
  generalize xs.getD 5 0 = x5 at *
  generalize xs.getD 6 0 = x6 at *
  generalize xs.getD 7 0 = x7 at *
  have n5 : -9223372036854775808 ≤ x5 := by omega
  have m5 : x5 ≤ 9223372036854775807 := by omega
  have HC := Lib.hid hcell
  clear hcell hxl hown
  have hA := two_bytes
  have hA2 := two_drew
  have hD : ∀ (W : World) (p q : UInt8), (Op.stringOp .add ⟨(Lib.itoa x5).toArray⟩ ⟨[p, q].toArray⟩).run Tryd.prog W = .ok (.string ⟨(Lib.itoa x5 ++ [p, q]).toArray⟩) W := fun W p q => by
    have := Lib.itoa_length_le x5 n5 m5
    exact run_string_add_lists W _ _ (by omega) (by simp)
  go_region_held (fun w' => w'.cell? ⟨g, 5, none⟩ = some (.int .i64 x5) ∧ w'.cell? ⟨g, 6, none⟩ = some (.int .i64 x6) ∧ w'.cell? ⟨g, 7, none⟩ = some (.int .i64 x7))
    (first | go_keep | exact keepA hb2 hg1 c5 c6 c7 | exact keepB hb2 hg1 c5 c6 c7 | fail)
    (first | (go_at_call 7; refine (Ito.idec_any x5 _ n5 m5 ?_).mono ?_; (first | exact ht1.below (Below.refl _ _) | exact ht1.below (Below.refl _ _).drew | exact ht1.below ((Below.refl _ _).alloc (Nat.le_refl _) _) | exact ht1.below ((Below.refl _ _).alloc (Nat.le_refl _) _).drew | fail); rintro e w2 ⟨rfl, hb2⟩; (first | (have hB := two_later hb2) | skip)) | fail)
  all_goals clear hA hA2 hD
  all_goals
    (first
      | (have hbW : Below w1.heap.size w1 (w2.alloc (.cells #[.int .u8 (IntKind.u8.wrap x6), .int .u8 (IntKind.u8.wrap x7)] 5)) := ((Below.refl _ _).drew.trans hb2).alloc hb2.size _
         generalize w2.alloc (.cells #[.int .u8 (IntKind.u8.wrap x6), .int .u8 (IntKind.u8.wrap x7)] 5) = W at *)
      | (have hbW : Below w1.heap.size w1 w2 := (((Below.refl _ _).alloc (Nat.le_refl _) _).drew).trans (hb2.mono (Nat.le_of_lt (lt_alloc w1 _)))
         obtain ⟨W, rfl⟩ : ∃ W : World, W = w2 := ⟨w2, rfl⟩)
      | fail)
    have htW := ht1.below hbW
    have hlen : (Lib.itoa x5 ++ [UInt8.ofNat (IntKind.u8.wrap x6).toNat, UInt8.ofNat (IntKind.u8.wrap x7).toNat]).length ≤ 30 := by
      have := Lib.itoa_length_le x5 n5 m5
      simp; omega
    generalize Lib.itoa x5 ++ [UInt8.ofNat (IntKind.u8.wrap x6).toNat, UInt8.ofNat (IntKind.u8.wrap x7).toNat] = tl at *
    go_wp2_with (fail)
    refine (ihex_l tl W (by omega)).mono ?_
    rintro e W2 ⟨rfl, hbh⟩
    go_wp2_with (fail)
    refine (iun_l tl W2 (by omega)).mono ?_
    rintro e W3 ⟨rfl, hbu⟩
    have hb3 : Below w1.heap.size w1 W3 := (hbW.trans (hbh.mono hbW.size)).trans (hbu.mono (hbW.trans (hbh.mono hbW.size)).size)
    have ht3 := ht1.below hb3
    have cW : ∀ j, j < 12 → W3.cell? ⟨g, j, none⟩ = some (.int .i64 (xs.getD j 0)) := fun j hj => (hb3.cell (p := ⟨g, j, none⟩) hg1).trans (HC.out j hj)
    have d0 := cW 0 (by omega)
    have d1 := cW 1 (by omega)
    have d2 := cW 2 (by omega)
    have d3 := cW 3 (by omega)
    have d4 := cW 4 (by omega)
    have e0 := inR_at hin 0
    have e1 := inR_at hin 1
    have e2 := inR_at hin 2
    have e3 := inR_at hin 3
    have e4 := inR_at hin 4
    clear cW HC hin c5 c6 c7
    generalize xs.getD 0 0 = y0 at *
    generalize xs.getD 1 0 = y1 at *
    generalize xs.getD 2 0 = y2 at *
    generalize xs.getD 3 0 = y3 at *
    generalize xs.getD 4 0 = y4 at *
    have r1 : IntKind.i64.wrap (y0 * 10000) = y0 * 10000 := IntWalk.i64_in _ (by omega)
    have r2 : IntKind.i64.wrap (y0 * 10000 + y1) = y0 * 10000 + y1 := IntWalk.i64_in _ (by omega)
    go_wp2
    go_quiet (fail)
    clear r1 r2
    have hn0 : 0 ≤ y0 * 10000 + y1 := by omega
    have hn1 : y0 * 10000 + y1 ≤ 99999999 := by omega
    generalize y0 * 10000 + y1 = n at *
    go_wp2_with (fail)
    refine (Ito.idec_any n _ (by omega) (by omega) (ht3.below (below_drawn _ _))).mono ?_
    rintro e W4 ⟨rfl, hb4⟩
    go_wp2_with (fail)
    refine (ird_l n.toNat n _ (by omega) (by omega)).mono ?_
    rintro e W5 ⟨rfl, rfl⟩
    have hbx : Below W3.heap.size W3 W4 := (below_drawn W3 nq).trans hb4
    have hg3 : g < W3.heap.size := Nat.lt_of_lt_of_le hg1 hb3.size
    have k2 : W4.cell? ⟨g, 2, none⟩ = some (.int .i64 y2) := (hbx.cell (p := ⟨g, 2, none⟩) hg3).trans d2
    have k3 : W4.cell? ⟨g, 3, none⟩ = some (.int .i64 y3) := (hbx.cell (p := ⟨g, 3, none⟩) hg3).trans d3
    have k4 : W4.cell? ⟨g, 4, none⟩ = some (.int .i64 y4) := (hbx.cell (p := ⟨g, 4, none⟩) hg3).trans d4
    have hb5 : Below w1.heap.size w1 W4 := hb3.trans (hbx.mono hb3.size)
    clear d0 d1 d2 d3 d4 hbx hb4 htW ht3 hbW hbh hbu
    have r1 : IntKind.i64.wrap (y2 - 5000) = y2 - 5000 := IntWalk.i64_in _ (by omega)
    have r2 : IntKind.i64.wrap (-y3) = -y3 := IntWalk.i64_in _ (by omega)
    go_wp2
    go_quiet ((go_at_call 11; exact Calls.quiet_of_same (ibr_any _ _ _ _)))
    clear r1 r2
    have hbi := brI_in (n := y2 - 5000) (show -y3 ≤ y4 by omega)
    generalize brI (y2 - 5000) (-y3) y4 = bb at *
    go_wp2
    have q3 : (W4.drewN nq).cell? ⟨g, 3, none⟩ = some (.int .i64 y3) := k3
    have q4 : (W4.drewN nq).cell? ⟨g, 4, none⟩ = some (.int .i64 y4) := k4
    have hb6 : Below w1.heap.size w1 (W4.drewN nq) := hb5.trans ((below_drawn W4 nq).mono hb5.size)
    clear k2 k3 k4 hb5
    generalize W4.drewN nq = W6 at *
    have hB1 : -y3 ≤ bb := hbi.1
    have hB2 : bb ≤ y4 := hbi.2
    have t1 : decide (-y3 ≤ bb) = true := decide_eq_true hB1
    have t2 : decide (bb ≤ y4) = true := decide_eq_true hB2
    have hl2 : (Nums.hexL tl).length = 2 * tl.length := Nums.hexL_len tl
    have s1 : (⟨(Nums.hexL tl).toArray⟩ : ByteArray).size = 2 * tl.length := by rw [← Nums.len_eq]; simpa using hl2
    have s2 : (⟨tl.toArray⟩ : ByteArray).size = tl.length := by rw [← Nums.len_eq]
    have r1 : IntKind.i64.wrap (2 * (tl.length : Int)) = 2 * (tl.length : Int) := IntWalk.i64_in _ (by omega)
    have r2 : IntKind.i64.wrap (-y3) = -y3 := IntWalk.i64_in _ (by omega)
    go_quiet ((go_at_call 11; exact Calls.quiet_of_same (ibr_id _ _ _ _ hB1 hB2)))
    go_wp2
    go_ret
    exact ⟨rfl, hb1.trans ((hb6.trans ((below_drawn W6 _).mono hb6.size)).mono hb1.size)⟩

theorem walk_big (a : Option Addr) (len cap : Nat) (w : World) (hl : 1048576 < len) (hm : len ≤ 9223372036854775807) :
    Calls Tryd.prog 3 #[.slice a len cap] w fun e w' => e = .returned (.bool true) ∧ Below w.heap.size w w' := by
  go_enter Tryd.func3, Tryd.ntmps3
  go_wp2
  go_ret
  exact ⟨rfl, Below.refl _ _⟩

theorem laidOut : laidOutB Tryd.prog = true := by kernel_rfl

theorem contract (H : Type) (enc : TypeId × Value → H) (W : World) (base : Nat) (args : Array Value) (ds gs : List (DataW H)) (before : List MemPlace)
    (hval : ∀ (j : Nat) t v, Tryd.f3.params[j]? = some t → args[j]? = some v → Value.okWide Tryd.prog W .any base t v)
    (hW : DataW.Whole enc Tryd.prog Tryd.f3.params.toList Rows.fnFiguresSpec.vars false W args.toList ds gs before) (hL : laidMetH Tryd.prog Rows.fnFiguresRow.laid W) :
    Calls Tryd.prog 3 args W fun e W' => ∃ v, e = .returned v ∧ Rows.fnFiguresSpec.post enc Tryd.prog Tryd.f3 false true false false W args v W' := by
  have hW' := hW
  obtain ⟨p, q, hA0, hV, rfl, hfz, hnd⟩ := hW
  have hA : DataW.TrodAll enc Tryd.prog W 0 (fun _ => true) true Tryd.f3.params.toList args.toList ds p := hA0
  rw [Tryd.params3] at hA hval
  obtain ⟨v0, vs0, d0, ds0, p0, q0, hargs, rfl, rfl, h0, r0⟩ := trodAll_cons hA
  obtain ⟨rfl, rfl, rfl⟩ := trodAll_nil r0
  obtain rfl : args = #[v0] := by cases args; simp_all
  obtain ⟨rfl, rfl⟩ := trodVars_none hV
  obtain ⟨a, len, cap, rfl⟩ := okWide_slice Tryd.underlying22 (hval 0 22 v0 rfl rfl)
  have lt0 : ∀ x ∈ p0, x.block < W.heap.size := by obtain ⟨m, hm⟩ := h0; exact DataW.trod_lt m _ _ _ hm
  obtain ⟨hc, hm⟩ := code_of h0
  have all : Calls Tryd.prog 3 #[.slice a len cap] W fun e w' => e = .returned (.bool true) ∧ Below W.heap.size W w' := by
    by_cases hl : len ≤ 1048576
    · exact walk a len cap W hl hc (Ito.tab_of_laid (by kernel_rfl) hL)
    · exact walk_big a len cap W (by omega) hm
  refine all.mono fun e W' ⟨he, bel⟩ => ?_
  subst he
  exact ⟨_, rfl, law_post (pa := _) (pv := []) hW' (trodAll_cons_mk (shut_bool Tryd.underlying4 _) trodAll_mk0) (trodAll_cons_mk (Below.trod laidOut (by kernel_rfl) (of_decide_eq_true (by kernel_rfl)) h0 bel lt0) trodAll_mk0) rfl rfl bel⟩


theorem laid_met (os : Os) : laidMet Tryd.prog Rows.fnFiguresRow.laid ((laidWorld os).forCall (fun _ _ => 0) ⟨#[], #[.slice none 0 0], []⟩).memory :=
  laidMet_of_run' 8 (by kernel_rfl) (by kernel_rfl)
theorem reads (os : Os) {H : Type} (enc : TypeId × Value → H) : ∃ places, DataW.whole enc Tryd.prog ((laidWorld os).forCall (fun _ _ => 0) ⟨#[], #[.slice none 0 0], []⟩).memory Tryd.f3.params.toList Rows.fnFiguresSpec.vars false #[Value.slice none 0 0].toList 8 = some ([.nil], [], places) :=
  ⟨[], by kernel_rfl⟩

set_option maxRecDepth 100000 in
theorem lifted (os : Os) (started : os.Started) (H : Type) (enc : TypeId × Value → H) (F : Stop.Interp) :
    ReturnsInHanded {} Tryd.checked os 3 .any ((OpenSpec.ofChange Rows.fnFiguresSpec).preRow enc Tryd.prog Tryd.f3 Rows.fnFiguresRow.domain false Rows.fnFiguresRow.laid) (((OpenSpec.ofChange Rows.fnFiguresSpec).at F).post enc Tryd.prog Tryd.f3 false true false false) := by
  obtain ⟨places, hx⟩ := reads os enc
  refine returnsInHanded_of_row (C := Tryd.checked) (s := OpenSpec.ofChange Rows.fnFiguresSpec) own started (by kernel_rfl) Tryd.func3
    (witness_row_at (enc := enc) (C := Tryd.checked) false (laidWorld os) #[.slice none 0 0] rfl (by kernel_rfl) (by kernel_rfl) (by kernel_rfl)
      (OpenSpec.preRow_of_cond 8 hx (by kernel_rfl) (fun k hk => by cases hk) (by kernel_rfl) (laid_met os))) ?_
  intro W base args ds gs before hval hW _ _ _ hL _ _
  exact contract H enc W base args ds gs before hval hW hL

theorem said : Rows.FnFiguresSaid :=
  OpenClaim.holds_of_cond 3 Tryd.f3 rfl rfl rfl rfl rfl rfl rfl ⟨rfl, rfl, rfl, rfl, rfl⟩ rfl rfl rfl rfl rfl (by kernel_rfl) Tryd.func3 (by kernel_rfl)
    (of_decide_eq_true (by kernel_rfl)) (by unfold Func.isWrapper; first | (rw [if_pos (by decide +kernel)]; kernel_rfl) | (rw [if_neg (by decide +kernel)]; exact ⟨rfl, rfl⟩))
    (fun os started H enc _ F => by rw [OpenClaim.pre_eq_preRow]; exact lifted os started H enc F)

theorem plain (f : FuncId) (fn : Func) (hf : Tryd.pinned.checked.prog.funcNamed Rows.fnFiguresRow.func = some f) (hfn : Tryd.pinned.checked.prog.funcs[f]? = some fn) :
    false = Tryd.pinned.checked.prog.looks [] ∧ ∀ (j : Nat) t, fn.params[j]? = some t → Tryd.pinned.checked.prog.wantsStandIn t = false := by
  obtain rfl : f = 3 := Option.some.inj ((show Tryd.prog.funcNamed Rows.fnFiguresRow.func = some 3 by kernel_rfl).symm.trans hf) |>.symm
  obtain rfl : fn = Tryd.f3 := (Option.some.inj (Tryd.func3.symm.trans hfn)).symm
  refine ⟨by kernel_rfl, fun j t ht => ?_⟩
  rw [Tryd.params3] at ht
  obtain rfl : t = 22 := by simpa using Array.mem_of_getElem? ht
  exact (show Tryd.prog.wantsStandIn 22 = false by kernel_rfl)

/-- The given card. -/
theorem card : Rows.FnFiguresCardSaid :=
  Claim7.holds_tied_plain_at .later [] _ _ _ _ said (fun _ h => by cases h) (by kernel_rfl) (fun _ h => by cases h) fnFigures_row_tie rfl ⟨rfl, rfl⟩ (by kernel_rfl) rfl plain (by kernel_rfl)
#print axioms card
end Go.Proofs.YtddgghghilfdcaaDoor.fnFigures
