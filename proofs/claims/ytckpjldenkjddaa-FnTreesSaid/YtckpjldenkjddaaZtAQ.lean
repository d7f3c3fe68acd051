import Derived.Test.YtckpjldenkjddaaZtAK
section
namespace Go.Proofs.Ytckpjldenkjddaa
open Go.ChangeShapes Go.WideShapes Go.ChangeAt Go.RowKit

theorem ity0 (n : Int) (w : World) :
    Calls Try.prog 160 #[.agg #[.int .i64 0, .int .i64 n]] w fun e w' => e = .returned (.iface 179 (.agg #[])) ∧ w' = w.alloc (.cells #[.int .i64 0, .int .i64 n] 35) := by
  go_enter Try.func160, Try.ntmps160
  go_wp2
  go_ret
  exact ⟨rfl, rfl⟩
theorem ity1 (n : Int) (w : World) :
    Calls Try.prog 160 #[.agg #[.int .i64 1, .int .i64 n]] w fun e w' => e = .returned (.iface 181 (.int .i64 n)) ∧ w' = w.alloc (.cells #[.int .i64 1, .int .i64 n] 35) := by
  go_enter Try.func160, Try.ntmps160
  go_wp2
  go_ret
  exact ⟨rfl, rfl⟩
theorem ity2 (n : Int) (w : World) :
    Calls Try.prog 160 #[.agg #[.int .i64 2, .int .i64 n]] w fun e w' => e = .returned (.iface 182 (.int .i64 n)) ∧ w' = w.alloc (.cells #[.int .i64 2, .int .i64 n] 35) := by
  go_enter Try.func160, Try.ntmps160
  go_wp2
  go_ret
  exact ⟨rfl, rfl⟩
theorem ity3 (n : Int) (w : World) :
    Calls Try.prog 160 #[.agg #[.int .i64 3, .int .i64 n]] w fun e w' => e = .returned (.iface 180 (.agg #[])) ∧ w' = w.alloc (.cells #[.int .i64 3, .int .i64 n] 35) := by
  go_enter Try.func160, Try.ntmps160
  go_wp2
  go_ret
  exact ⟨rfl, rfl⟩
theorem itynone (k n : Int) (w : World) (h : k < 0 ∨ 3 < k) :
    Calls Try.prog 160 #[.agg #[.int .i64 k, .int .i64 n]] w fun e w' => e = .returned .nilIface ∧ w' = w.alloc (.cells #[.int .i64 k, .int .i64 n] 35) := by
  have h0 : (k == 0) = false := by simp; omega
  have h1 : (k == 1) = false := by simp; omega
  have h2 : (k == 2) = false := by simp; omega
  have h3 : (k == 3) = false := by simp; omega
  clear h
  go_enter Try.func160, Try.ntmps160
  go_wp2
  go_ret
  exact ⟨rfl, rfl⟩

theorem as00 (v : Value) (w : World) : (Instr.typeAssert (.iface 179 v) 20 179 true).run Try.prog w = .ok (.tuple #[v, .bool true]) w := by kernel_rfl
theorem as01 (v : Value) (w : World) : (Instr.typeAssert (.iface 179 v) 20 181 true).run Try.prog w = .ok (.tuple #[.int .i64 0, .bool false]) w := by kernel_rfl
theorem as02 (v : Value) (w : World) : (Instr.typeAssert (.iface 179 v) 20 182 true).run Try.prog w = .ok (.tuple #[.int .i64 0, .bool false]) w := by kernel_rfl
theorem as03 (v : Value) (w : World) : (Instr.typeAssert (.iface 179 v) 20 180 true).run Try.prog w = .ok (.tuple #[.agg #[], .bool false]) w := by kernel_rfl
theorem as10 (v : Value) (w : World) : (Instr.typeAssert (.iface 181 v) 20 179 true).run Try.prog w = .ok (.tuple #[.agg #[], .bool false]) w := by kernel_rfl
theorem as11 (v : Value) (w : World) : (Instr.typeAssert (.iface 181 v) 20 181 true).run Try.prog w = .ok (.tuple #[v, .bool true]) w := by kernel_rfl
theorem as12 (v : Value) (w : World) : (Instr.typeAssert (.iface 181 v) 20 182 true).run Try.prog w = .ok (.tuple #[.int .i64 0, .bool false]) w := by kernel_rfl
theorem as13 (v : Value) (w : World) : (Instr.typeAssert (.iface 181 v) 20 180 true).run Try.prog w = .ok (.tuple #[.agg #[], .bool false]) w := by kernel_rfl
theorem as20 (v : Value) (w : World) : (Instr.typeAssert (.iface 182 v) 20 179 true).run Try.prog w = .ok (.tuple #[.agg #[], .bool false]) w := by kernel_rfl
theorem as21 (v : Value) (w : World) : (Instr.typeAssert (.iface 182 v) 20 181 true).run Try.prog w = .ok (.tuple #[.int .i64 0, .bool false]) w := by kernel_rfl
theorem as22 (v : Value) (w : World) : (Instr.typeAssert (.iface 182 v) 20 182 true).run Try.prog w = .ok (.tuple #[v, .bool true]) w := by kernel_rfl
theorem as23 (v : Value) (w : World) : (Instr.typeAssert (.iface 182 v) 20 180 true).run Try.prog w = .ok (.tuple #[.agg #[], .bool false]) w := by kernel_rfl
theorem as30 (v : Value) (w : World) : (Instr.typeAssert (.iface 180 v) 20 179 true).run Try.prog w = .ok (.tuple #[.agg #[], .bool false]) w := by kernel_rfl
theorem as31 (v : Value) (w : World) : (Instr.typeAssert (.iface 180 v) 20 181 true).run Try.prog w = .ok (.tuple #[.int .i64 0, .bool false]) w := by kernel_rfl
theorem as32 (v : Value) (w : World) : (Instr.typeAssert (.iface 180 v) 20 182 true).run Try.prog w = .ok (.tuple #[.int .i64 0, .bool false]) w := by kernel_rfl
theorem as33 (v : Value) (w : World) : (Instr.typeAssert (.iface 180 v) 20 180 true).run Try.prog w = .ok (.tuple #[v, .bool true]) w := by kernel_rfl
theorem asn0 (w : World) : (Instr.typeAssert .nilIface 20 179 true).run Try.prog w = .ok (.tuple #[.agg #[], .bool false]) w := by kernel_rfl
theorem asn1 (w : World) : (Instr.typeAssert .nilIface 20 181 true).run Try.prog w = .ok (.tuple #[.int .i64 0, .bool false]) w := by kernel_rfl
theorem asn2 (w : World) : (Instr.typeAssert .nilIface 20 182 true).run Try.prog w = .ok (.tuple #[.int .i64 0, .bool false]) w := by kernel_rfl
theorem asn3 (w : World) : (Instr.typeAssert .nilIface 20 180 true).run Try.prog w = .ok (.tuple #[.agg #[], .bool false]) w := by kernel_rfl

theorem ivok0 (n : Int) (w : World) :
    Calls Try.prog 143 #[.agg #[.int .i64 0, .int .i64 n]] w fun e w' => e = .returned (.bool (okV 0 n)) ∧ Below w.heap.size w w' := by
  have t0 := as00 (.agg #[])
  have t1 := as01 (.agg #[])
  have t2 := as02 (.agg #[])
  have t3 := as03 (.agg #[])
  go_enter Try.func143, Try.ntmps143
  go_wp2_with (fail)
  refine (ity0 n _).mono ?_
  rintro e w1 ⟨rfl, rfl⟩
  go_wp2
  go_ret
  exact ⟨ret_bool' (by simp [okV]; try rfl), Go.Joins.below_alloc2 ..⟩


theorem ivok3 (n : Int) (w : World) :
    Calls Try.prog 143 #[.agg #[.int .i64 3, .int .i64 n]] w fun e w' => e = .returned (.bool (okV 3 n)) ∧ Below w.heap.size w w' := by
  have t0 := as30 (.agg #[])
  have t1 := as31 (.agg #[])
  have t2 := as32 (.agg #[])
  have t3 := as33 (.agg #[])
  go_enter Try.func143, Try.ntmps143
  go_wp2_with (fail)
  refine (ity3 n _).mono ?_
  rintro e w1 ⟨rfl, rfl⟩
  go_wp2
  go_ret
  exact ⟨ret_bool' (by simp [okV]; try rfl), Go.Joins.below_alloc2 ..⟩


theorem ivok1 (n : Int) (w : World) :
    Calls Try.prog 143 #[.agg #[.int .i64 1, .int .i64 n]] w fun e w' => e = .returned (.bool (okV 1 n)) ∧ Below w.heap.size w w' := by
  have t0 := as10 (.int .i64 n)
  have t1 := as11 (.int .i64 n)
  have t2 := as12 (.int .i64 n)
  have t3 := as13 (.int .i64 n)
  by_cases h1 : n < -1048576 <;> by_cases h2 : 1048576 < n <;> (try omega) <;>
    (go_enter Try.func143, Try.ntmps143
     go_wp2_with (fail)
     refine (ity1 n _).mono ?_
     rintro e w1 ⟨rfl, rfl⟩
     go_wp2
     go_ret
     exact ⟨ret_bool' (by simp [okV]; try omega), Go.Joins.below_alloc2 ..⟩)


theorem ivok2 (n : Int) (w : World) :
    Calls Try.prog 143 #[.agg #[.int .i64 2, .int .i64 n]] w fun e w' => e = .returned (.bool (okV 2 n)) ∧ Below w.heap.size w w' := by
  have t0 := as20 (.int .i64 n)
  have t1 := as21 (.int .i64 n)
  have t2 := as22 (.int .i64 n)
  have t3 := as23 (.int .i64 n)
  by_cases h1 : n < -1000 <;> by_cases h2 : 1000 < n <;> (try omega) <;>
    (go_enter Try.func143, Try.ntmps143
     go_wp2_with (fail)
     refine (ity2 n _).mono ?_
     rintro e w1 ⟨rfl, rfl⟩
     go_wp2
     go_ret
     exact ⟨ret_bool' (by simp [okV]; try omega), Go.Joins.below_alloc2 ..⟩)


theorem ivokn (k n : Int) (w : World) (h : k < 0 ∨ 3 < k) :
    Calls Try.prog 143 #[.agg #[.int .i64 k, .int .i64 n]] w fun e w' => e = .returned (.bool (okV k n)) ∧ Below w.heap.size w w' := by
  have t0 := asn0
  have t1 := asn1
  have t2 := asn2
  have t3 := asn3
  have H := Lib.hid h
  clear h
  go_enter Try.func143, Try.ntmps143
  go_wp2_with (fail)
  refine (itynone k n _ H.out).mono ?_
  rintro e w1 ⟨rfl, rfl⟩
  go_wp2
  go_ret
  exact ⟨ret_bool' (by have h := H.out; unfold okV; rw [if_neg (by omega), if_neg (by omega), if_neg (by omega)]), Go.Joins.below_alloc2 ..⟩
theorem ivok (k n : Int) (w : World) :
    Calls Try.prog 143 #[.agg #[.int .i64 k, .int .i64 n]] w fun e w' => e = .returned (.bool (okV k n)) ∧ Below w.heap.size w w' := by
  rcases kind_cases k with rfl | rfl | rfl | rfl | h
  · exact ivok0 n w
  · exact ivok1 n w
  · exact ivok2 n w
  · exact ivok3 n w
  · exact ivokn k n w h

end Go.Proofs.Ytckpjldenkjddaa
end
