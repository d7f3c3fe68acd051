import Derived.Test.YtiogjbdaaplhpaaZfAC
section
namespace Go.Proofs.Ytiogjbdaaplhpaa
open Go.ChangeShapes Go.WideShapes Go.ChangeAt Go.RowKit

theorem ity0 (n : Int) (w : World) :
    Calls Try.prog 160 #[.agg #[.int .i64 0, .int .i64 n]] w fun e w' => e = .returned (.iface 179 (.agg #[])) ∧ w' = w.alloc (.cells #[.int .i64 0, .int .i64 n] 35) := by
  go_enter Try.func160, Try.ntmps160
  go_wp2
  go_ret
  exact ⟨rfl, rfl⟩
theorem ity1 (n : Int) (w : World) :
    Calls Try.prog 160 #[.agg #[.int .i64 1, .int .i64 n]] w fun e w' => e = .returned (.iface 181 (.int .i64 n)) ∧ w' = w.alloc (.cells #[.int .i64 1, .int .i64 n] 35) := by
  go_enter Try.func160, Try.ntmps160
  go_wp2
  go_ret
  exact ⟨rfl, rfl⟩
theorem ity2 (n : Int) (w : World) :
    Calls Try.prog 160 #[.agg #[.int .i64 2, .int .i64 n]] w fun e w' => e = .returned (.iface 182 (.int .i64 n)) ∧ w' = w.alloc (.cells #[.int .i64 2, .int .i64 n] 35) := by
  go_enter Try.func160, Try.ntmps160
  go_wp2
  go_ret
  exact ⟨rfl, rfl⟩
theorem ity3 (n : Int) (w : World) :
    Calls Try.prog 160 #[.agg #[.int .i64 3, .int .i64 n]] w fun e w' => e = .returned (.iface 180 (.agg #[])) ∧ w' = w.alloc (.cells #[.int .i64 3, .int .i64 n] 35) := by
  go_enter Try.func160, Try.ntmps160
  go_wp2
  go_ret
  exact ⟨rfl, rfl⟩
theorem itynone (k n : Int) (w : World) (h : k < 0 ∨ 3 < k) :
    Calls Try.prog 160 #[.agg #[.int .i64 k, .int .i64 n]] w fun e w' => e = .returned .nilIface ∧ w' = w.alloc (.cells #[.int .i64 k, .int .i64 n] 35) := by
  have h0 : (k == 0) = false := by simp; omega
  have h1 : (k == 1) = false := by simp; omega
  have h2 : (k == 2) = false := by simp; omega
  have h3 : (k == 3) = false := by simp; omega
  clear h
  go_enter Try.func160, Try.ntmps160
  go_wp2
  go_ret
  exact ⟨rfl, rfl⟩

theorem as00 (v : Value) (w : World) : (Instr.typeAssert (.iface 179 v) 20 179 true).run Try.prog w = .ok (.tuple #[v, .bool true]) w := by kernel_rfl
theorem as01 (v : Value) (w : World) : (Instr.typeAssert (.iface 179 v) 20 181 true).run Try.prog w = .ok (.tuple #[.int .i64 0, .bool false]) w := by kernel_rfl
theorem as02 (v : Value) (w : World) : (Instr.typeAssert (.iface 179 v) 20 182 true).run Try.prog w = .ok (.tuple #[.int .i64 0, .bool false]) w := by kernel_rfl
theorem as03 (v : Value) (w : World) : (Instr.typeAssert (.iface 179 v) 20 180 true).run Try.prog w = .ok (.tuple #[.agg #[], .bool false]) w := by kernel_rfl
theorem as10 (v : Value) (w : World) : (Instr.typeAssert (.iface 181 v) 20 179 true).run Try.prog w = .ok (.tuple #[.agg #[], .bool false]) w := by kernel_rfl
theorem as11 (v : Value) (w : World) : (Instr.typeAssert (.iface 181 v) 20 181 true).run Try.prog w = .ok (.tuple #[v, .bool true]) w := by kernel_rfl
theorem as12 (v : Value) (w : World) : (Instr.typeAssert (.iface 181 v) 20 182 true).run Try.prog w = .ok (.tuple #[.int .i64 0, .bool false]) w := by kernel_rfl
theorem as13 (v : Value) (w : World) : (Instr.typeAssert (.iface 181 v) 20 180 true).run Try.prog w = .ok (.tuple #[.agg #[], .bool false]) w := by kernel_rfl
theorem as20 (v : Value) (w : World) : (Instr.typeAssert (.iface 182 v) 20 179 true).run Try.prog w = .ok (.tuple #[.agg #[], .bool false]) w := by kernel_rfl
theorem as21 (v : Value) (w : World) : (Instr.typeAssert (.iface 182 v) 20 181 true).run Try.prog w = .ok (.tuple #[.int .i64 0, .bool false]) w := by kernel_rfl
theorem as22 (v : Value) (w : World) : (Instr.typeAssert (.iface 182 v) 20 182 true).run Try.prog w = .ok (.tuple #[v, .bool true]) w := by kernel_rfl
theorem as23 (v : Value) (w : World) : (Instr.typeAssert (.iface 182 v) 20 180 true).run Try.prog w = .ok (.tuple #[.agg #[], .bool false]) w := by kernel_rfl
theorem as30 (v : Value) (w : World) : (Instr.typeAssert (.iface 180 v) 20 179 true).run Try.prog w = .ok (.tuple #[.agg #[], .bool false]) w := by kernel_rfl
theorem as31 (v : Value) (w : World) : (Instr.typeAssert (.iface 180 v) 20 181 true).run Try.prog w = .ok (.tuple #[.int .i64 0, .bool false]) w := by kernel_rfl
theorem as32 (v : Value) (w : World) : (Instr.typeAssert (.iface 180 v) 20 182 true).run Try.prog w = .ok (.tuple #[.int .i64 0, .bool false]) w := by kernel_rfl
theorem as33 (v : Value) (w : World) : (Instr.typeAssert (.iface 180 v) 20 180 true).run Try.prog w = .ok (.tuple #[v, .bool true]) w := by kernel_rfl
theorem asn0 (w : World) : (Instr.typeAssert .nilIface 20 179 true).run Try.prog w = .ok (.tuple #[.agg #[], .bool false]) w := by kernel_rfl
theorem asn1 (w : World) : (Instr.typeAssert .nilIface 20 181 true).run Try.prog w = .ok (.tuple #[.int .i64 0, .bool false]) w := by kernel_rfl
theorem asn2 (w : World) : (Instr.typeAssert .nilIface 20 182 true).run Try.prog w = .ok (.tuple #[.int .i64 0, .bool false]) w := by kernel_rfl
theorem asn3 (w : World) : (Instr.typeAssert .nilIface 20 180 true).run Try.prog w = .ok (.tuple #[.agg #[], .bool false]) w := by kernel_rfl

theorem ivok0 (n : Int) (w : World) :
    Calls Try.prog 143 #[.agg #[.int .i64 0, .int .i64 n]] w fun e w' => e = .returned (.bool (okV 0 n)) ∧ Below w.heap.size w w' := by
  have t0 := as00 (.agg #[])
  have t1 := as01 (.agg #[])
  have t2 := as02 (.agg #[])
  have t3 := as03 (.agg #[])
  go_enter Try.func143, Try.ntmps143
  go_wp2_with (fail)
  refine (ity0 n _).mono ?_
  rintro e w1 ⟨rfl, rfl⟩
  go_wp2
  go_ret
  exact ⟨ret_bool' (by simp [okV]; try rfl), Go.Joins.below_alloc2 ..⟩


theorem ivok3 (n : Int) (w : World) :
    Calls Try.prog 143 #[.agg #[.int .i64 3, .int .i64 n]] w fun e w' => e = .returned (.bool (okV 3 n)) ∧ Below w.heap.size w w' := by
  have t0 := as30 (.agg #[])
  have t1 := as31 (.agg #[])
  have t2 := as32 (.agg #[])
  have t3 := as33 (.agg #[])
  go_enter Try.func143, Try.ntmps143
  go_wp2_with (fail)
  refine (ity3 n _).mono ?_
  rintro e w1 ⟨rfl, rfl⟩
  go_wp2
  go_ret
  exact ⟨ret_bool' (by simp [okV]; try rfl), Go.Joins.below_alloc2 ..⟩


theorem ivok1 (n : Int) (w : World) :
    Calls Try.prog 143 #[.agg #[.int .i64 1, .int .i64 n]] w fun e w' => e = .returned (.bool (okV 1 n)) ∧ Below w.heap.size w w' := by
  have t0 := as10 (.int .i64 n)
  have t1 := as11 (.int .i64 n)
  have t2 := as12 (.int .i64 n)
  have t3 := as13 (.int .i64 n)
  by_cases h1 : n < -1048576 <;> by_cases h2 : 1048576 < n <;> (try omega) <;>
    (go_enter Try.func143, Try.ntmps143
     go_wp2_with (fail)
     refine (ity1 n _).mono ?_
     rintro e w1 ⟨rfl, rfl⟩
     go_wp2
     go_ret
     exact ⟨ret_bool' (by simp [okV]; try omega), Go.Joins.below_alloc2 ..⟩)


theorem ivok2 (n : Int) (w : World) :
    Calls Try.prog 143 #[.agg #[.int .i64 2, .int .i64 n]] w fun e w' => e = .returned (.bool (okV 2 n)) ∧ Below w.heap.size w w' := by
  have t0 := as20 (.int .i64 n)
  have t1 := as21 (.int .i64 n)
  have t2 := as22 (.int .i64 n)
  have t3 := as23 (.int .i64 n)
  by_cases h1 : n < -1000 <;> by_cases h2 : 1000 < n <;> (try omega) <;>
    (go_enter Try.func143, Try.ntmps143
     go_wp2_with (fail)
     refine (ity2 n _).mono ?_
     rintro e w1 ⟨rfl, rfl⟩
     go_wp2
     go_ret
     exact ⟨ret_bool' (by simp [okV]; try omega), Go.Joins.below_alloc2 ..⟩)


theorem ivokn (k n : Int) (w : World) (h : k < 0 ∨ 3 < k) :
    Calls Try.prog 143 #[.agg #[.int .i64 k, .int .i64 n]] w fun e w' => e = .returned (.bool (okV k n)) ∧ Below w.heap.size w w' := by
  have t0 := asn0
  have t1 := asn1
  have t2 := asn2
  have t3 := asn3
  have H := Lib.hid h
  clear h
  go_enter Try.func143, Try.ntmps143
  go_wp2_with (fail)
  refine (itynone k n _ H.out).mono ?_
  rintro e w1 ⟨rfl, rfl⟩
  go_wp2
  go_ret
  exact ⟨ret_bool' (by have h := H.out; unfold okV; rw [if_neg (by omega), if_neg (by omega), if_neg (by omega)]), Go.Joins.below_alloc2 ..⟩
theorem ivok (k n : Int) (w : World) :
    Calls Try.prog 143 #[.agg #[.int .i64 k, .int .i64 n]] w fun e w' => e = .returned (.bool (okV k n)) ∧ Below w.heap.size w w' := by
  rcases kind_cases k with rfl | rfl | rfl | rfl | h
  · exact ivok0 n w
  · exact ivok1 n w
  · exact ivok2 n w
  · exact ivok3 n w
  · exact ivokn k n w h

end Go.Proofs.Ytiogjbdaaplhpaa
end
section
namespace Go.Proofs.Ytiogjbdaaplhpaa
open Go.ChangeShapes Go.WideShapes Go.ChangeAt Go.RowKit

theorem isok (lk ln tk tn rk rn bk bn sk sn ek en : Int) (w : World) :
    Calls Try.prog 144 #[.agg #[.int .i64 lk, .int .i64 ln, .int .i64 tk, .int .i64 tn, .int .i64 rk, .int .i64 rn, .int .i64 bk, .int .i64 bn, .int .i64 sk, .int .i64 sn, .int .i64 ek, .int .i64 en]] w fun e w' => e = .returned (.bool (sdOk lk ln tk tn rk rn bk bn sk sn ek en)) ∧ Below w.heap.size w w' := by
  have hA0 := hp_new w (.cells #[.int .i64 lk, .int .i64 ln, .int .i64 tk, .int .i64 tn, .int .i64 rk, .int .i64 rn, .int .i64 bk, .int .i64 bn, .int .i64 sk, .int .i64 sn, .int .i64 ek, .int .i64 en] 37)
  have bb0 := Go.Joins.below_alloc1 w (.cells #[.int .i64 lk, .int .i64 ln, .int .i64 tk, .int .i64 tn, .int .i64 rk, .int .i64 rn, .int .i64 bk, .int .i64 bn, .int .i64 sk, .int .i64 sn, .int .i64 ek, .int .i64 en] 37)
  have s0 := ivok lk ln
  have s1 := ivok tk tn
  have s2 := ivok rk rn
  have s3 := ivok bk bn
  have s4 := ivok sk sn
  have s5 := ivok ek en
  unfold sdOk
  cases h0 : okV lk ln <;> rw [h0] at s0
  · have hA := hA0
    have bb := bb0
    clear hA0 bb0
    go_enter Try.func144, Try.ntmps144
    go_wp2_with (fail)
    refine (s0 _).mono ?_
    rintro e v0 ⟨rfl, b0⟩
    replace hA := hp_below hA b0
    replace bb := bb.trans (b0.mono bb.size)
    clear b0
    go_wp2
    go_ret
    exact ⟨rfl, bb⟩
  cases h1 : okV tk tn <;> rw [h1] at s1
  · have hA := hA0
    have bb := bb0
    clear hA0 bb0
    go_enter Try.func144, Try.ntmps144
    go_wp2_with (fail)
    refine (s0 _).mono ?_
    rintro e v0 ⟨rfl, b0⟩
    replace hA := hp_below hA b0
    replace bb := bb.trans (b0.mono bb.size)
    clear b0
    have c0 := Go.Joins.cell_of_block hA 2
    have c1 := Go.Joins.cell_of_block hA 3
    simp at c0 c1
    go_wp2_with (fail)
    refine (s1 _).mono ?_
    rintro e v1 ⟨rfl, b1⟩
    clear c0 c1
    replace hA := hp_below hA b1
    replace bb := bb.trans (b1.mono bb.size)
    clear b1
    go_wp2
    go_ret
    exact ⟨rfl, bb⟩
  cases h2 : okV rk rn <;> rw [h2] at s2
  · have hA := hA0
    have bb := bb0
    clear hA0 bb0
    go_enter Try.func144, Try.ntmps144
    go_wp2_with (fail)
    refine (s0 _).mono ?_
    rintro e v0 ⟨rfl, b0⟩
    replace hA := hp_below hA b0
    replace bb := bb.trans (b0.mono bb.size)
    clear b0
    have c0 := Go.Joins.cell_of_block hA 2
    have c1 := Go.Joins.cell_of_block hA 3
    simp at c0 c1
    go_wp2_with (fail)
    refine (s1 _).mono ?_
    rintro e v1 ⟨rfl, b1⟩
    clear c0 c1
    replace hA := hp_below hA b1
    replace bb := bb.trans (b1.mono bb.size)
    clear b1
    have c0 := Go.Joins.cell_of_block hA 4
    have c1 := Go.Joins.cell_of_block hA 5
    simp at c0 c1
    go_wp2_with (fail)
    refine (s2 _).mono ?_
    rintro e v2 ⟨rfl, b2⟩
    clear c0 c1
    replace hA := hp_below hA b2
    replace bb := bb.trans (b2.mono bb.size)
    clear b2
    go_wp2
    go_ret
    exact ⟨rfl, bb⟩
  cases h3 : okV bk bn <;> rw [h3] at s3
  · have hA := hA0
    have bb := bb0
    clear hA0 bb0
    go_enter Try.func144, Try.ntmps144
    go_wp2_with (fail)
    refine (s0 _).mono ?_
    rintro e v0 ⟨rfl, b0⟩
    replace hA := hp_below hA b0
    replace bb := bb.trans (b0.mono bb.size)
    clear b0
    have c0 := Go.Joins.cell_of_block hA 2
    have c1 := Go.Joins.cell_of_block hA 3
    simp at c0 c1
    go_wp2_with (fail)
    refine (s1 _).mono ?_
    rintro e v1 ⟨rfl, b1⟩
    clear c0 c1
    replace hA := hp_below hA b1
    replace bb := bb.trans (b1.mono bb.size)
    clear b1
    have c0 := Go.Joins.cell_of_block hA 4
    have c1 := Go.Joins.cell_of_block hA 5
    simp at c0 c1
    go_wp2_with (fail)
    refine (s2 _).mono ?_
    rintro e v2 ⟨rfl, b2⟩
    clear c0 c1
    replace hA := hp_below hA b2
    replace bb := bb.trans (b2.mono bb.size)
    clear b2
    have c0 := Go.Joins.cell_of_block hA 6
    have c1 := Go.Joins.cell_of_block hA 7
    simp at c0 c1
    go_wp2_with (fail)
    refine (s3 _).mono ?_
    rintro e v3 ⟨rfl, b3⟩
    clear c0 c1
    replace hA := hp_below hA b3
    replace bb := bb.trans (b3.mono bb.size)
    clear b3
    go_wp2
    go_ret
    exact ⟨rfl, bb⟩
  cases h4 : okV sk sn <;> rw [h4] at s4
  · have hA := hA0
    have bb := bb0
    clear hA0 bb0
    go_enter Try.func144, Try.ntmps144
    go_wp2_with (fail)
    refine (s0 _).mono ?_
    rintro e v0 ⟨rfl, b0⟩
    replace hA := hp_below hA b0
    replace bb := bb.trans (b0.mono bb.size)
    clear b0
    have c0 := Go.Joins.cell_of_block hA 2
    have c1 := Go.Joins.cell_of_block hA 3
    simp at c0 c1
    go_wp2_with (fail)
    refine (s1 _).mono ?_
    rintro e v1 ⟨rfl, b1⟩
    clear c0 c1
    replace hA := hp_below hA b1
    replace bb := bb.trans (b1.mono bb.size)
    clear b1
    have c0 := Go.Joins.cell_of_block hA 4
    have c1 := Go.Joins.cell_of_block hA 5
    simp at c0 c1
    go_wp2_with (fail)
    refine (s2 _).mono ?_
    rintro e v2 ⟨rfl, b2⟩
    clear c0 c1
    replace hA := hp_below hA b2
    replace bb := bb.trans (b2.mono bb.size)
    clear b2
    have c0 := Go.Joins.cell_of_block hA 6
    have c1 := Go.Joins.cell_of_block hA 7
    simp at c0 c1
    go_wp2_with (fail)
    refine (s3 _).mono ?_
    rintro e v3 ⟨rfl, b3⟩
    clear c0 c1
    replace hA := hp_below hA b3
    replace bb := bb.trans (b3.mono bb.size)
    clear b3
    have c0 := Go.Joins.cell_of_block hA 8
    have c1 := Go.Joins.cell_of_block hA 9
    simp at c0 c1
    go_wp2_with (fail)
    refine (s4 _).mono ?_
    rintro e v4 ⟨rfl, b4⟩
    clear c0 c1
    replace hA := hp_below hA b4
    replace bb := bb.trans (b4.mono bb.size)
    clear b4
    go_wp2
    go_ret
    exact ⟨rfl, bb⟩
  cases h5 : okV ek en <;> rw [h5] at s5
  · have hA := hA0
    have bb := bb0
    clear hA0 bb0
    go_enter Try.func144, Try.ntmps144
    go_wp2_with (fail)
    refine (s0 _).mono ?_
    rintro e v0 ⟨rfl, b0⟩
    replace hA := hp_below hA b0
    replace bb := bb.trans (b0.mono bb.size)
    clear b0
    have c0 := Go.Joins.cell_of_block hA 2
    have c1 := Go.Joins.cell_of_block hA 3
    simp at c0 c1
    go_wp2_with (fail)
    refine (s1 _).mono ?_
    rintro e v1 ⟨rfl, b1⟩
    clear c0 c1
    replace hA := hp_below hA b1
    replace bb := bb.trans (b1.mono bb.size)
    clear b1
    have c0 := Go.Joins.cell_of_block hA 4
    have c1 := Go.Joins.cell_of_block hA 5
    simp at c0 c1
    go_wp2_with (fail)
    refine (s2 _).mono ?_
    rintro e v2 ⟨rfl, b2⟩
    clear c0 c1
    replace hA := hp_below hA b2
    replace bb := bb.trans (b2.mono bb.size)
    clear b2
    have c0 := Go.Joins.cell_of_block hA 6
    have c1 := Go.Joins.cell_of_block hA 7
    simp at c0 c1
    go_wp2_with (fail)
    refine (s3 _).mono ?_
    rintro e v3 ⟨rfl, b3⟩
    clear c0 c1
    replace hA := hp_below hA b3
    replace bb := bb.trans (b3.mono bb.size)
    clear b3
    have c0 := Go.Joins.cell_of_block hA 8
    have c1 := Go.Joins.cell_of_block hA 9
    simp at c0 c1
    go_wp2_with (fail)
    refine (s4 _).mono ?_
    rintro e v4 ⟨rfl, b4⟩
    clear c0 c1
    replace hA := hp_below hA b4
    replace bb := bb.trans (b4.mono bb.size)
    clear b4
    have c0 := Go.Joins.cell_of_block hA 10
    have c1 := Go.Joins.cell_of_block hA 11
    simp at c0 c1
    go_wp2_with (fail)
    refine (s5 _).mono ?_
    rintro e v5 ⟨rfl, b5⟩
    clear c0 c1
    replace hA := hp_below hA b5
    replace bb := bb.trans (b5.mono bb.size)
    clear b5
    go_wp2
    go_ret
    exact ⟨rfl, bb⟩
  · have hA := hA0
    have bb := bb0
    clear hA0 bb0
    go_enter Try.func144, Try.ntmps144
    go_wp2_with (fail)
    refine (s0 _).mono ?_
    rintro e v0 ⟨rfl, b0⟩
    replace hA := hp_below hA b0
    replace bb := bb.trans (b0.mono bb.size)
    clear b0
    have c0 := Go.Joins.cell_of_block hA 2
    have c1 := Go.Joins.cell_of_block hA 3
    simp at c0 c1
    go_wp2_with (fail)
    refine (s1 _).mono ?_
    rintro e v1 ⟨rfl, b1⟩
    clear c0 c1
    replace hA := hp_below hA b1
    replace bb := bb.trans (b1.mono bb.size)
    clear b1
    have c0 := Go.Joins.cell_of_block hA 4
    have c1 := Go.Joins.cell_of_block hA 5
    simp at c0 c1
    go_wp2_with (fail)
    refine (s2 _).mono ?_
    rintro e v2 ⟨rfl, b2⟩
    clear c0 c1
    replace hA := hp_below hA b2
    replace bb := bb.trans (b2.mono bb.size)
    clear b2
    have c0 := Go.Joins.cell_of_block hA 6
    have c1 := Go.Joins.cell_of_block hA 7
    simp at c0 c1
    go_wp2_with (fail)
    refine (s3 _).mono ?_
    rintro e v3 ⟨rfl, b3⟩
    clear c0 c1
    replace hA := hp_below hA b3
    replace bb := bb.trans (b3.mono bb.size)
    clear b3
    have c0 := Go.Joins.cell_of_block hA 8
    have c1 := Go.Joins.cell_of_block hA 9
    simp at c0 c1
    go_wp2_with (fail)
    refine (s4 _).mono ?_
    rintro e v4 ⟨rfl, b4⟩
    clear c0 c1
    replace hA := hp_below hA b4
    replace bb := bb.trans (b4.mono bb.size)
    clear b4
    have c0 := Go.Joins.cell_of_block hA 10
    have c1 := Go.Joins.cell_of_block hA 11
    simp at c0 c1
    go_wp2_with (fail)
    refine (s5 _).mono ?_
    rintro e v5 ⟨rfl, b5⟩
    clear c0 c1
    replace hA := hp_below hA b5
    replace bb := bb.trans (b5.mono bb.size)
    clear b5
    go_wp2
    go_ret
    exact ⟨rfl, bb⟩
end Go.Proofs.Ytiogjbdaaplhpaa
end
