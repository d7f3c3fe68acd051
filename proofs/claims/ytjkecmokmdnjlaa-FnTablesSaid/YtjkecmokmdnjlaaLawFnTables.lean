/-
  For every code, laws.FnTables returns true: what a table tells is what the first of its rules tells for which there is room, the model's table and the program's agree, and equal tables are found equal. Conditions: none.
-/
import Derived.Test.YtjkecmokmdnjlaaCodeIn
import Derived.Test.YtjkecmokmdnjlaaSame
import Derived.Test.YtjkecmokmdnjlaaTbC
import Derived.Test.YtjkecmokmdnjlaaWan
import Derived.Test.YtjkecmokmdnjlaaRfI
import Derived.Test.YtjkecmokmdnjlaaTok
import Derived.Test.YtjkecmokmdnjlaaRms
import Derived.Test.YtjkecmokmdnjlaaSmT
import Derived.Test.YtjkecmokmdnjlaaTbl
import Derived.Deep.RegionWith
import Derived.Below
namespace Go.Proofs.Ytjkecmokmdnjlaa.fnTables
open Go.ChangeShapes Go.WideShapes Go.ChangeAt Go.RowKit
set_option linter.unusedVariables false
set_option linter.unusedSimpArgs false

theorem eql_rule (a b c x y z : Int) (w : World) :
    (binOp .eql 32 (.agg #[.int .i64 a, .int .i64 b, .int .i64 c]) (.agg #[.int .i64 x, .int .i64 y, .int .i64 z])).run Try.prog w = .ok (.bool (a == x && b == y && c == z)) w := by
  have u3 := Try.underlying3
  have a3 := Try.isAgg3
  have z3 := Try.sizeOf3
  have hS : Try.prog.underlying 32 = some (.struct (Try.prog.fieldsOf 32)) := by kernel_rfl
  have hp : Try.prog.stoodInHeld 32 = false := by kernel_rfl
  rw [run_eql_struct, show (10000 : Nat) = 9999 + 1 from rfl, run_equalIn_agg w 9999 32 _ _ hS hp]
  simp only [Program.fieldsOf, Try.underlying32]
  go_simp
  by_cases h1 : a = x <;> by_cases h2 : b = y <;> by_cases h3 : c = z <;> simp [h1, h2, h3]
theorem eguard_rule (x y : Operand) (xs ys : Array Value) (w : World) : (eqGuard .eql 32 x y (.agg xs) (.agg ys)).run Try.prog w = .ok () w := run_eqGuard_agg w _ _ x y xs ys (by kernel_rfl)

/-- A list of rules that was just written down. -/
theorem lit_rules (w : World) (n : Nat) (zs : List Int) (hn : zs.length = n * 3) (hr : AllI zs) :
    Rls (w.alloc (.cells (zs.map (Value.int .i64)).toArray 32)) (some ⟨w.heap.size, 0, none⟩) n zs := by
  refine ⟨hn, hr, Or.inr ⟨w.heap.size, 0, rfl, by simp, fun j hj => ?_⟩⟩
  have h := (MapKept.heap_alloc w (.cells (zs.map (Value.int .i64)).toArray 32)).1
  simp only [World.cell?, h]
  simp [show j < zs.length by omega]
/-- The table that the law writes down. -/
theorem lit_wanted : waV [100, 80, 10, 0, 40, 20] 2 50 = .tuple #[.int .i64 40, .int .i64 20] := by
  unfold waV
  rw [show clI (rfX [100, 80, 10, 0, 40, 20] 2 50 1) = 40 by decide +kernel, show clI (rfX [100, 80, 10, 0, 40, 20] 2 50 2) = 20 by decide +kernel]
/-- A rule's three cells and two boxes. -/
def Five (v : World) (p q r s t : Addr) (y z : Value) (w : World) : Prop :=
  w.cell? p = some (.int .i64 0) ∧ w.cell? q = some (.int .i64 0) ∧ w.cell? r = some (.int .i64 0) ∧ w.cell? s = some y ∧ w.cell? t = some z ∧ Below v.heap.size v w
theorem keep5 {v w w' : World} {p q r s t : Addr} {y z : Value} (h : w.cell? p = some (.int .i64 0) ∧ w.cell? q = some (.int .i64 0) ∧ w.cell? r = some (.int .i64 0) ∧ w.cell? s = some y ∧ w.cell? t = some z ∧ Below v.heap.size v w) (hb : Below w.heap.size w w') :
    w'.cell? p = some (.int .i64 0) ∧ w'.cell? q = some (.int .i64 0) ∧ w'.cell? r = some (.int .i64 0) ∧ w'.cell? s = some y ∧ w'.cell? t = some z ∧ Below v.heap.size v w' :=
  ⟨(hb.cell (block_lt_of_cell h.1)).trans h.1, (hb.cell (block_lt_of_cell h.2.1)).trans h.2.1, (hb.cell (block_lt_of_cell h.2.2.1)).trans h.2.2.1, (hb.cell (block_lt_of_cell h.2.2.2.1)).trans h.2.2.2.1, (hb.cell (block_lt_of_cell h.2.2.2.2.1)).trans h.2.2.2.2.1, h.2.2.2.2.2.trans (hb.mono h.2.2.2.2.2.size)⟩
theorem drew5 {v w : World} {p q r s t : Addr} {y z : Value} (h : w.cell? p = some (.int .i64 0) ∧ w.cell? q = some (.int .i64 0) ∧ w.cell? r = some (.int .i64 0) ∧ w.cell? s = some y ∧ w.cell? t = some z ∧ Below v.heap.size v w) :
    w.drew.cell? p = some (.int .i64 0) ∧ w.drew.cell? q = some (.int .i64 0) ∧ w.drew.cell? r = some (.int .i64 0) ∧ w.drew.cell? s = some y ∧ w.drew.cell? t = some z ∧ Below v.heap.size v w.drew := ⟨h.1, h.2.1, h.2.2.1, h.2.2.2.1, h.2.2.2.2.1, h.2.2.2.2.2.drew⟩
theorem keep1 {v w w' : World} {p : Addr} {s : Value} (h : w.cell? p = some s ∧ Below v.heap.size v w) (hb : Below w.heap.size w w') : w'.cell? p = some s ∧ Below v.heap.size v w' :=
  ⟨(hb.cell (block_lt_of_cell h.1)).trans h.1, h.2.trans (hb.mono h.2.size)⟩
theorem drew1 {v w : World} {p : Addr} {s : Value} (h : w.cell? p = some s ∧ Below v.heap.size v w) : w.drew.cell? p = some s ∧ Below v.heap.size v w.drew := ⟨h.1, h.2.drew⟩

set_option maxRecDepth 100000 in
set_option maxHeartbeats 4000000 in
theorem walk (a : Option Addr) (len cap : Nat) (w : World) (hl : len ≤ 1048576) (hc : Code w a len) :
    Calls Try.prog 3 #[.slice a len cap] w fun e w' => e = .returned (.bool true) ∧ Below w.heap.size w w' := by
  have HC := Lib.hid hc
  go_enter Try.func3, Try.ntmps3
  go_wp2_with (first | (go_at_call 10; refine (draw_wantedof a len cap w hl hc).mono ?_; rintro e w1 ⟨b, n, vc, zs, x, rfl, hn, hza, hx, hr1, b1⟩) | (go_at_call 9; go_in))
  clear hc
  have hT := hp_new w1 (.cells #[.slice (some ⟨b, 0, none⟩) n vc] 26)
  have hr : RowR w.heap.size (.slice (some ⟨b, 0, none⟩) n vc) n zs (w1.alloc (.cells #[.slice (some ⟨b, 0, none⟩) n vc] 26)) := World.ownsRow.alloc hr1 _
  have B := b1.trans ((Go.Joins.below_alloc1 w1 (.cells #[.slice (some ⟨b, 0, none⟩) n vc] 26)).mono b1.size)
  obtain ⟨u, eu⟩ : ∃ u, u = w1.alloc (.cells #[.slice (some ⟨b, 0, none⟩) n vc] 26) := ⟨_, rfl⟩
  rw [← eu] at hT hr B ⊢
  clear eu hr1 b1
  generalize w1.heap.size = g3 at *
  have k1 := fun (v : World) (hv : Rls v (some ⟨b, 0, none⟩) n zs) => iwanted (some ⟨b, 0, none⟩) n vc zs x v hv (by omega)
  have k2 := fun (v : World) (hv : Rls v (some ⟨b, 0, none⟩) n zs) => swanted (some ⟨b, 0, none⟩) n vc zs x v hv (by omega)
  have k3 := fun (v : World) (hv : Rls v (some ⟨b, 0, none⟩) n zs) => irulefor (some ⟨b, 0, none⟩) n vc zs x v hv (by omega)
  have hk : (∀ k, rfK zs n x = some k → rfX zs n x 0 = zs.getD (k * 3) 0 ∧ rfX zs n x 1 = zs.getD (k * 3 + 1) 0 ∧ rfX zs n x 2 = zs.getD (k * 3 + 2) 0 ∧ rfB zs n x = true) ∧ (rfK zs n x = none → rfX zs n x 0 = 0 ∧ rfX zs n x 1 = 0 ∧ rfX zs n x 2 = 0 ∧ rfB zs n x = false) :=
    ⟨fun k h => ⟨rfX_some h 0, rfX_some h 1, rfX_some h 2, rfB_some h⟩, fun h => ⟨rfX_none h 0, rfX_none h 1, rfX_none h 2, rfB_none h⟩⟩
  simp only [waV, rfV] at k1 k2 k3
  generalize clI (rfX zs n x 1) = p at *
  generalize clI (rfX zs n x 2) = q at *
  generalize rfX zs n x 0 = r0 at *
  generalize rfX zs n x 1 = r1 at *
  generalize rfX zs n x 2 = r2 at *
  generalize rfB zs n x = ok at *
  have HK := Lib.hid hk
  have K2 := Lib.hid k2
  have K3 := Lib.hid k3
  clear hk k2 k3
  refine (k1 _ (hr.rls hza)).mono ?_
  rintro e w2 ⟨rfl, b2⟩
  replace hT := hp_below hT b2
  replace hr := hr.below b2
  replace B := B.trans (b2.mono B.size)
  clear b2 k1
  have cT := cell_one hT
  (try dsimp only)
  go_wp2_with (fail)
  clear cT
  refine (K2.out _ (hr.rls hza)).mono ?_
  rintro e w3 ⟨rfl, b3⟩
  replace hT := hp_below hT b3
  replace hr := hr.below b3
  replace B := B.trans (b3.mono B.size)
  clear b3 K2
  have cT := cell_one hT
  (try dsimp only)
  go_wp2_with (fail)
  clear cT
  refine (K3.out _ (hr.rls hza)).mono ?_
  rintro e w4 ⟨rfl, b4⟩
  replace hT := hp_below hT b4
  replace hr := hr.below b4
  replace B := B.trans (b4.mono B.size)
  clear b4 K3
  have hR := hp_new w4 (.cells #[.int .i64 r0, .int .i64 r1, .int .i64 r2] 32)
  replace hT := hp_on hT (.cells #[.int .i64 r0, .int .i64 r1, .int .i64 r2] 32)
  have hr : RowR w.heap.size (.slice (some ⟨b, 0, none⟩) n vc) n zs (w4.alloc (.cells #[.int .i64 r0, .int .i64 r1, .int .i64 r2] 32)) := World.ownsRow.alloc hr _
  replace B := B.trans ((Go.Joins.below_alloc1 w4 (.cells #[.int .i64 r0, .int .i64 r1, .int .i64 r2] 32)).mono B.size)
  obtain ⟨v, ev⟩ : ∃ v, v = w4.alloc (.cells #[.int .i64 r0, .int .i64 r1, .int .i64 r2] 32) := ⟨_, rfl⟩
  rw [← ev] at hT hr hR B
  have EV := Lib.hid ev
  clear ev
  (try dsimp only)
  go_wp2_with (rw [← EV.out])
  have hza' : ∀ w', Below v.heap.size v w' → Rls w' (some ⟨b, 0, none⟩) n zs := fun w' h => (hr.rls hza).below h
  have hro : AllI (roL zs n) := roL_all (hr.rls hza)
  have hrl : (roL zs n).length ≤ 1048576 := by rw [roL_len]; omega
  have k4 := fun (v : World) (hv : Rls v (some ⟨b, 0, none⟩) n zs) => itableok (some ⟨b, 0, none⟩) n vc zs v hv (by omega)
  have k5 := fun (v : World) (hv : Rls v (some ⟨b, 0, none⟩) n zs) => stableok (some ⟨b, 0, none⟩) n vc zs v hv (by omega)
  have k6 := fun (v : World) (hv : Rls v (some ⟨b, 0, none⟩) n zs) => iroomsof (some ⟨b, 0, none⟩) n vc zs v hv (by omega)
  have k7 := fun (v : World) (hv : Rls v (some ⟨b, 0, none⟩) n zs) => sroomsof (some ⟨b, 0, none⟩) n vc zs v hv (by omega)
  generalize tokB zs n = tk at *
  generalize roL zs n = ro at *
  have K4 := Lib.hid k4
  have K5 := Lib.hid k5
  have K6 := Lib.hid k6
  have K7 := Lib.hid k7
  have RO := Lib.hid hro
  have RL := Lib.hid hrl
  have ZA := Lib.hid hza'
  have HT := Lib.hid hT
  have HR := Lib.hid hr
  have HG := Lib.hid hR
  have HB := Lib.hid B
  have cT := cell_one hT
  have SS : v.cell? ⟨g3, 0, none⟩ = some (.slice (some ⟨b, 0, none⟩) n vc) ∧ Below v.heap.size v v := ⟨cT, Below.refl _ _⟩
  clear k4 k5 k6 k7 hro hrl hza' hT hr hR B cT
  go_region_held3 (fun w' => w'.cell? ⟨g3, 0, none⟩ = some (.slice (some ⟨b, 0, none⟩) n vc) ∧ Below v.heap.size v w')
    (first | exact keep1 (by assumption) (by assumption) | exact drew1 (by assumption))
    (first
      | (go_at_call 14; refine (K4.out _ (ZA.out _ (And.right (by assumption)))).mono ?_; rintro e w5 ⟨rfl, b5⟩)
      | (go_at_call 15; refine (K5.out _ (ZA.out _ (And.right (by assumption)))).mono ?_; rintro e w6 ⟨rfl, b6⟩)
      | (go_at_call 17; refine (K6.out _ (ZA.out _ (And.right (by assumption)))).mono ?_; rintro e w7 ⟨v7, rfl, r7, b7⟩)
      | (go_at_call 18; refine (K7.out _ (ZA.out _ (And.right (by assumption)))).mono ?_; rintro e w8 ⟨v8, rfl, r8, b8⟩)
      | (go_at_call 16; refine (sameR_any _ _ v7 v8 ro _ RO.out RL.out (r7.below b8) r8).mono ?_; rintro e w9 ⟨rfl, b9⟩)
      | fail)
  have SE : w9.cell? ⟨g3, 0, none⟩ = some (.slice (some ⟨b, 0, none⟩) n vc) ∧ Below v.heap.size v w9 := by assumption
  have bE := SE.2
  have B := HB.out.trans (bE.mono HB.out.size)
  have hR := hp_below HG.out bE
  have hr := HR.out.below bE
  have HZ := Lib.hid (hr.rls hza)
  clear SS SE r7 r8 b5 b6 b7 b8 b9 K4 K5 K6 K7 RO RL ZA EV
  have hT := hp_below HT.out bE
  have HBE := Lib.hid B
  have HR9 := Lib.hid hr
  have HG9 := Lib.hid hR
  have HT9 := Lib.hid hT
  clear HT HR HG HB bE
  have cT := cell_one hT
  have c0 := Go.Joins.cell_of_block hR 0
  have c1 := Go.Joins.cell_of_block hR 1
  have c2 := Go.Joins.cell_of_block hR 2
  simp at c0 c1 c2
  generalize w4.heap.size = g9 at *
  clear hT hr hR B
  (try dsimp only)
  go_wp2_with (fail)
  go_loop [11] (fun i => ∃ k : Nat, k ≤ n ∧ i = .int .i64 k ∧ ∀ j, j < k → hitB zs x j = false) (fun i => n - (intOf i).toNat)
  case atStart => exact ⟨0, Nat.zero_le _, rfl, fun j hj => absurd hj (Nat.not_lt_zero _)⟩
  case round =>
    obtain ⟨k, hk, rfl, hm⟩ := hrel
    by_cases hlt : k < n
    · obtain ⟨b', off, hba, hbl, e0, e1, e2⟩ := HZ.out.look hlt
      obtain ⟨rfl, rfl⟩ : b = b' ∧ 0 = off := by simpa using hba
      clear hba
      simp only [Nat.zero_add] at e0 e1 e2
      have hlo : (0 : Int) ≤ (k : Int) := Int.natCast_nonneg _
      have hhi : (k : Int) < (n : Int) := by omega
      have hend : hitB zs x k = true → r0 = zs.getD (k * 3) 0 ∧ r1 = zs.getD (k * 3 + 1) 0 ∧ r2 = zs.getD (k * 3 + 2) 0 ∧ ok = true := fun h => HK.out.1 k (rfK_some hlt h hm)
      have hmis : x ≠ -1 → x < zs.getD (k * 3) 0 → ∀ j, j < k + 1 → hitB zs x j = false := misses hm
      have hun : x = -1 → hitB zs x k = true := hit_unknown k
      have hro : zs.getD (k * 3) 0 ≤ x → hitB zs x k = true := hit_room
      generalize zs.getD (k * 3) 0 = y0 at *
      generalize zs.getD (k * 3 + 1) 0 = y1 at *
      generalize zs.getD (k * 3 + 2) 0 = y2 at *
      have HN := Lib.hid hend
      have HMI := Lib.hid hmis
      have HU := Lib.hid hun
      have HR := Lib.hid hro
      clear hm hend hmis hun hro
      by_cases hr1 : x = -1
      · obtain ⟨rfl, rfl, rfl, rfl⟩ := HN.out (HU.out hr1)
        have q1 := eql_rule r0 r1 r2 r0 r1 r2
        have q2 := eguard_rule
        simp only [beq_self_eq_true, Bool.and_true] at q1
        go_wp2
        go_quiet (fail)
        go_wp2
        go_ret
        exact ⟨rfl, HBE.out.trans ((below_drawn w9 nq).mono HBE.out.size)⟩
      · by_cases hr2 : y0 ≤ x
        · obtain ⟨rfl, rfl, rfl, rfl⟩ := HN.out (HR.out hr2)
          have q1 := eql_rule r0 r1 r2 r0 r1 r2
          have q2 := eguard_rule
          simp only [beq_self_eq_true, Bool.and_true] at q1
          go_wp2
          go_quiet (fail)
          go_wp2
          go_ret
          exact ⟨rfl, HBE.out.trans ((below_drawn w9 nq).mono HBE.out.size)⟩
        · go_wp2
          go_round
          case rel => exact ⟨k + 1, by omega, by go_num, HMI.out hr1 (by omega)⟩
          case measure => simp [intOf]; omega
    · obtain rfl : k = n := by omega
      obtain ⟨rfl, rfl, rfl, rfl⟩ := HK.out.2 (rfK_none hm)
      clear HK hm hlt hk
      have hc9 := HC.out.below HBE.out
      go_wp2_with (go_at_call 19; refine (draw_sametable a len cap w9 hl hc9).mono ?_; rintro e w10 ⟨v1, u1, n1, m1, zs1, ys1, rfl, hn1, hm1, hza1, hya1, ra, rb, b10⟩; obtain ⟨a1, p1, rfl, hz1⟩ := ra.slice hza1; obtain ⟨a2, p2, rfl, hz2⟩ := rb.slice hya1)
      have h12 := hp_on (hp_on (hp_new w10 (.cells #[.slice a1 n1 p1] 26)) (.cells #[.slice a2 m1 p2] 26)) (.cells ([100, 80, 10, 0, 40, 20].map (Value.int .i64)).toArray 32)
      have h13 := hp_on (hp_new (w10.alloc (.cells #[.slice a1 n1 p1] 26)) (.cells #[.slice a2 m1 p2] 26)) (.cells ([100, 80, 10, 0, 40, 20].map (Value.int .i64)).toArray 32)
      have hz14 := lit_rules ((w10.alloc (.cells #[.slice a1 n1 p1] 26)).alloc (.cells #[.slice a2 m1 p2] 26)) 2 [100, 80, 10, 0, 40, 20] rfl (by intro z hz; simp at hz; omega)
      have b13 := Go.Joins.below_alloc3 w10 (.cells #[.slice a1 n1 p1] 26) (.cells #[.slice a2 m1 p2] 26) (.cells ([100, 80, 10, 0, 40, 20].map (Value.int .i64)).toArray 32)
      simp only [World.size_alloc] at h12 h13 hz14
      have h9 := hp_below HG9.out b10
      have B10 := HBE.out.trans (b10.mono HBE.out.size)
      have hg9 := hp_lt h9
      obtain ⟨wv, ev⟩ : ∃ wv, wv = ((w10.alloc (.cells #[.slice a1 n1 p1] 26)).alloc (.cells #[.slice a2 m1 p2] 26)).alloc (.cells #[.int .i64 100, .int .i64 80, .int .i64 10, .int .i64 0, .int .i64 40, .int .i64 20] 32) := ⟨_, rfl⟩
      have h12' : wv.heap[w10.heap.size]? = some (.cells #[.slice a1 n1 p1] 26) := by rw [ev]; exact h12
      have h13' : wv.heap[w10.heap.size + 1]? = some (.cells #[.slice a2 m1 p2] 26) := by rw [ev]; exact h13
      have hz14' : Rls wv (some ⟨w10.heap.size + 1 + 1, 0, none⟩) 2 [100, 80, 10, 0, 40, 20] := by rw [ev]; exact hz14
      have b13' : Below w10.heap.size w10 wv := by rw [ev]; exact b13
      have h9' := hp_below h9 b13'
      have B13 := B10.trans (b13'.mono B10.size)
      have hz1' := hz1.below b13'
      have hz2' := hz2.below b13'
      rw [← ev]
      clear ev h12 h13 hz14 b13 h9 B10 hz1 hz2 ra rb b10 hc9 HBE HG9 HT9 HR9 HZ
      have k14 := fun (v : World) (hv : Rls v (some ⟨w10.heap.size + 1 + 1, 0, none⟩) 2 [100, 80, 10, 0, 40, 20]) => iwanted (some ⟨w10.heap.size + 1 + 1, 0, none⟩) 2 2 [100, 80, 10, 0, 40, 20] 50 v hv (by omega)
      simp only [lit_wanted] at k14
      refine (k14 _ hz14').mono ?_
      rintro e w14 ⟨rfl, b14⟩
      have h12 := hp_below h12' b14
      have h13 := hp_below h13' b14
      have h9 := hp_below h9' b14
      have B := B13.trans (b14.mono B13.size)
      have hy1 : ∀ w', Below w14.heap.size w14 w' → Rls w' a1 n1 zs1 := fun w' h => (hz1'.below b14).below h
      have hy2 : ∀ w', Below w14.heap.size w14 w' → Rls w' a2 m1 ys1 := fun w' h => (hz2'.below b14).below h
      clear h12' h13' h9' B13 b14 k14 hz14' hz1' hz2' b13'
      have Y1 := Lib.hid hy1
      have Y2 := Lib.hid hy2
      have HB := Lib.hid B
      have c0 := Go.Joins.cell_of_block h9 0
      have c1 := Go.Joins.cell_of_block h9 1
      have c2 := Go.Joins.cell_of_block h9 2
      simp at c0 c1 c2
      have SS : w14.cell? ⟨g9, 0, none⟩ = some (.int .i64 0) ∧ w14.cell? ⟨g9, 1, none⟩ = some (.int .i64 0) ∧ w14.cell? ⟨g9, 2, none⟩ = some (.int .i64 0) ∧ w14.cell? ⟨w10.heap.size, 0, none⟩ = some (.slice a1 n1 p1) ∧ w14.cell? ⟨w10.heap.size + 1, 0, none⟩ = some (.slice a2 m1 p2) ∧ Below w14.heap.size w14 w14 := ⟨c0, c1, c2, cell_one h12, cell_one h13, Below.refl _ _⟩
      have q1 := eql_rule 0 0 0 0 0 0
      have q2 := eguard_rule
      simp only [beq_self_eq_true, Bool.and_true] at q1
      clear hy1 hy2 B h12 h13 h9 c0 c1 c2
      generalize w10.heap.size = g12 at *
      (try dsimp only)
      go_wp2_with (fail)
      go_region_held3 (fun w' => w'.cell? ⟨g9, 0, none⟩ = some (.int .i64 0) ∧ w'.cell? ⟨g9, 1, none⟩ = some (.int .i64 0) ∧ w'.cell? ⟨g9, 2, none⟩ = some (.int .i64 0) ∧ w'.cell? ⟨g12, 0, none⟩ = some (.slice a1 n1 p1) ∧ w'.cell? ⟨g12 + 1, 0, none⟩ = some (.slice a2 m1 p2) ∧ Below w14.heap.size w14 w')
        (first | exact keep5 (by assumption) (by assumption) | exact drew5 (by assumption))
        (first
          | (go_at_call 20; refine (isametable a1 a2 n1 m1 p1 p2 zs1 ys1 _ (Y1.out _ (And.right (And.right (And.right (And.right (And.right (by assumption))))))) (Y2.out _ (And.right (And.right (And.right (And.right (And.right (by assumption))))))) (by omega) (by omega)).mono ?_; rintro e w15 ⟨rfl, b15⟩)
          | (go_at_call 21; refine (lsametable a1 a2 n1 m1 p1 p2 zs1 ys1 _ (Y1.out _ (And.right (And.right (And.right (And.right (And.right (by assumption))))))) (Y2.out _ (And.right (And.right (And.right (And.right (And.right (by assumption))))))) (by omega) (by omega)).mono ?_; rintro e w16 ⟨rfl, b16⟩)
          | fail)
      have SE : w16.cell? ⟨g9, 0, none⟩ = some (.int .i64 0) ∧ w16.cell? ⟨g9, 1, none⟩ = some (.int .i64 0) ∧ w16.cell? ⟨g9, 2, none⟩ = some (.int .i64 0) ∧ w16.cell? ⟨g12, 0, none⟩ = some (.slice a1 n1 p1) ∧ w16.cell? ⟨g12 + 1, 0, none⟩ = some (.slice a2 m1 p2) ∧ Below w14.heap.size w14 w16 := by assumption
      have B := HB.out.trans (SE.2.2.2.2.2.mono HB.out.size)
      clear SS SE b15 b16 Y1 Y2 q1 q2
      (try dsimp only)
      go_wp2_with (fail)
      go_ret
      exact ⟨rfl, B⟩

set_option maxRecDepth 100000 in
theorem walk_big (a : Option Addr) (len cap : Nat) (w : World) (hl : 1048576 < len) (hm : len ≤ 9223372036854775807) :
    Calls Try.prog 3 #[.slice a len cap] w fun e w' => e = .returned (.bool true) ∧ Below w.heap.size w w' := by
  go_enter Try.func3, Try.ntmps3
  go_wp2
  go_ret
  exact ⟨rfl, Below.refl _ _⟩

theorem laidOut : laidOutB Try.prog = true := by kernel_rfl

theorem contract (H : Type) (enc : TypeId × Value → H) (W : World) (base : Nat) (args : Array Value) (ds gs : List (DataW H)) (before : List MemPlace)
    (hval : ∀ (j : Nat) t v, Try.f3.params[j]? = some t → args[j]? = some v → Value.okWide Try.prog W .any base t v)
    (hW : DataW.Whole enc Try.prog Try.f3.params.toList Rows.fnTablesSpec.vars false W args.toList ds gs before) :
    Calls Try.prog 3 args W fun e W' => ∃ v, e = .returned v ∧ Rows.fnTablesSpec.post enc Try.prog Try.f3 false true false false W args v W' := by
  have hW' := hW
  obtain ⟨p, q, hA0, hV, rfl, hfz, hnd⟩ := hW
  have hA : DataW.TrodAll enc Try.prog W 0 (fun _ => true) true Try.f3.params.toList args.toList ds p := hA0
  rw [Try.params3] at hA hval
  obtain ⟨v0, vs0, d0, ds0, p0, q0, hargs, rfl, rfl, h0, r0⟩ := trodAll_cons hA
  obtain ⟨rfl, rfl, rfl⟩ := trodAll_nil r0
  obtain rfl : args = #[v0] := by cases args; simp_all
  obtain ⟨rfl, rfl⟩ := trodVars_none hV
  obtain ⟨a, len, cap, rfl⟩ := okWide_slice Try.underlying22 (hval 0 22 v0 rfl rfl)
  have lt0 : ∀ x ∈ p0, x.block < W.heap.size := by obtain ⟨m, hm⟩ := h0; exact DataW.trod_lt m _ _ _ hm
  obtain ⟨hc, hm⟩ := code_of h0
  have all : Calls Try.prog 3 #[.slice a len cap] W fun e w' => e = .returned (.bool true) ∧ Below W.heap.size W w' := by
    by_cases hl : len ≤ 1048576
    · exact walk a len cap W hl hc
    · exact walk_big a len cap W (by omega) hm
  refine all.mono fun e W' ⟨he, bel⟩ => ?_
  subst he
  exact ⟨_, rfl, law_post (pa := _) (pv := []) hW' (trodAll_cons_mk (shut_bool Try.underlying4 _) trodAll_mk0) (trodAll_cons_mk (Below.trod laidOut (by kernel_rfl) (of_decide_eq_true (by kernel_rfl)) h0 bel lt0) trodAll_mk0) rfl rfl bel⟩


set_option maxRecDepth 100000 in
theorem lifted (os : Os) (started : os.Started) (H : Type) (enc : TypeId × Value → H) :
    ReturnsInHanded {} Try.checked os 3 .any (Rows.fnTablesSpec.pre6 enc Try.prog Try.f3 Rows.fnTablesRow.domain false) (Rows.fnTablesSpec.post enc Try.prog Try.f3 false true false false) := by
  refine returnsInHanded_of_change (C := Try.checked) own started (by kernel_rfl) Try.func3
    (ChangeSpec.witness6 (enc := enc) (C := Try.checked) false ⟨#[], #[.slice none 0 0], []⟩ 8 (by kernel_rfl) (by kernel_rfl) (by kernel_rfl) (by kernel_rfl)) ?_
  intro W base args ds gs before hval hW _ _
  exact contract H enc W base args ds gs before hval hW

/-- The given statement. -/
theorem proved : Rows.FnTablesSaid :=
  OpenClaim.holds_of_wide 3 Try.f3 rfl rfl rfl rfl rfl rfl rfl ⟨rfl, rfl, rfl, rfl, rfl⟩ rfl rfl rfl rfl rfl (by kernel_rfl) Try.func3 (by kernel_rfl)
    (of_decide_eq_true (by kernel_rfl)) (by unfold Func.isWrapper; first | (rw [if_pos (by decide +kernel)]; kernel_rfl) | (rw [if_neg (by decide +kernel)]; exact ⟨rfl, rfl⟩))
    (fun os started H enc _ => lifted os started H enc)
#print axioms proved
end Go.Proofs.Ytjkecmokmdnjlaa.fnTables
