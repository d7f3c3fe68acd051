/-
  The contracts of the program's chapter 4 over a value (a kind and a number): what typedValue hands back for each kind, what a type switch finds in it, ValueOk. Conditions: none.
-/
import Derived.Test.YtpmfijaclncfhaaValM
namespace Go.Proofs.Ytpmfijaclncfhaa
open Go.ChangeShapes Go.WideShapes Go.ChangeAt Go.RowKit

theorem ity0 (n : Int) (w : World) :
    Calls Try.prog 88 #[.agg #[.int .i64 0, .int .i64 n]] w fun e w' => e = .returned (.iface 92 (.agg #[])) ∧ w' = w.alloc (.cells #[.int .i64 0, .int .i64 n] 25) := by
  go_enter Try.func88, Try.ntmps88
  go_wp2
  go_ret
  exact ⟨rfl, rfl⟩
theorem ity1 (n : Int) (w : World) :
    Calls Try.prog 88 #[.agg #[.int .i64 1, .int .i64 n]] w fun e w' => e = .returned (.iface 89 (.int .i64 n)) ∧ w' = w.alloc (.cells #[.int .i64 1, .int .i64 n] 25) := by
  go_enter Try.func88, Try.ntmps88
  go_wp2
  go_ret
  exact ⟨rfl, rfl⟩
theorem ity2 (n : Int) (w : World) :
    Calls Try.prog 88 #[.agg #[.int .i64 2, .int .i64 n]] w fun e w' => e = .returned (.iface 90 (.int .i64 n)) ∧ w' = w.alloc (.cells #[.int .i64 2, .int .i64 n] 25) := by
  go_enter Try.func88, Try.ntmps88
  go_wp2
  go_ret
  exact ⟨rfl, rfl⟩
theorem ity3 (n : Int) (w : World) :
    Calls Try.prog 88 #[.agg #[.int .i64 3, .int .i64 n]] w fun e w' => e = .returned (.iface 93 (.agg #[])) ∧ w' = w.alloc (.cells #[.int .i64 3, .int .i64 n] 25) := by
  go_enter Try.func88, Try.ntmps88
  go_wp2
  go_ret
  exact ⟨rfl, rfl⟩
theorem itynone (k n : Int) (w : World) (h : k < 0 ∨ 3 < k) :
    Calls Try.prog 88 #[.agg #[.int .i64 k, .int .i64 n]] w fun e w' => e = .returned .nilIface ∧ w' = w.alloc (.cells #[.int .i64 k, .int .i64 n] 25) := by
  have h0 : (k == 0) = false := by simp; omega
  have h1 : (k == 1) = false := by simp; omega
  have h2 : (k == 2) = false := by simp; omega
  have h3 : (k == 3) = false := by simp; omega
  clear h
  go_enter Try.func88, Try.ntmps88
  go_wp2
  go_ret
  exact ⟨rfl, rfl⟩

theorem as00 (v : Value) (w : World) : (Instr.typeAssert (.iface 92 v) 20 92 true).run Try.prog w = .ok (.tuple #[v, .bool true]) w := by kernel_rfl
theorem as01 (v : Value) (w : World) : (Instr.typeAssert (.iface 92 v) 20 89 true).run Try.prog w = .ok (.tuple #[.int .i64 0, .bool false]) w := by kernel_rfl
theorem as02 (v : Value) (w : World) : (Instr.typeAssert (.iface 92 v) 20 90 true).run Try.prog w = .ok (.tuple #[.int .i64 0, .bool false]) w := by kernel_rfl
theorem as03 (v : Value) (w : World) : (Instr.typeAssert (.iface 92 v) 20 93 true).run Try.prog w = .ok (.tuple #[.agg #[], .bool false]) w := by kernel_rfl
theorem as10 (v : Value) (w : World) : (Instr.typeAssert (.iface 89 v) 20 92 true).run Try.prog w = .ok (.tuple #[.agg #[], .bool false]) w := by kernel_rfl
theorem as11 (v : Value) (w : World) : (Instr.typeAssert (.iface 89 v) 20 89 true).run Try.prog w = .ok (.tuple #[v, .bool true]) w := by kernel_rfl
theorem as12 (v : Value) (w : World) : (Instr.typeAssert (.iface 89 v) 20 90 true).run Try.prog w = .ok (.tuple #[.int .i64 0, .bool false]) w := by kernel_rfl
theorem as13 (v : Value) (w : World) : (Instr.typeAssert (.iface 89 v) 20 93 true).run Try.prog w = .ok (.tuple #[.agg #[], .bool false]) w := by kernel_rfl
theorem as20 (v : Value) (w : World) : (Instr.typeAssert (.iface 90 v) 20 92 true).run Try.prog w = .ok (.tuple #[.agg #[], .bool false]) w := by kernel_rfl
theorem as21 (v : Value) (w : World) : (Instr.typeAssert (.iface 90 v) 20 89 true).run Try.prog w = .ok (.tuple #[.int .i64 0, .bool false]) w := by kernel_rfl
theorem as22 (v : Value) (w : World) : (Instr.typeAssert (.iface 90 v) 20 90 true).run Try.prog w = .ok (.tuple #[v, .bool true]) w := by kernel_rfl
theorem as23 (v : Value) (w : World) : (Instr.typeAssert (.iface 90 v) 20 93 true).run Try.prog w = .ok (.tuple #[.agg #[], .bool false]) w := by kernel_rfl
theorem as30 (v : Value) (w : World) : (Instr.typeAssert (.iface 93 v) 20 92 true).run Try.prog w = .ok (.tuple #[.agg #[], .bool false]) w := by kernel_rfl
theorem as31 (v : Value) (w : World) : (Instr.typeAssert (.iface 93 v) 20 89 true).run Try.prog w = .ok (.tuple #[.int .i64 0, .bool false]) w := by kernel_rfl
theorem as32 (v : Value) (w : World) : (Instr.typeAssert (.iface 93 v) 20 90 true).run Try.prog w = .ok (.tuple #[.int .i64 0, .bool false]) w := by kernel_rfl
theorem as33 (v : Value) (w : World) : (Instr.typeAssert (.iface 93 v) 20 93 true).run Try.prog w = .ok (.tuple #[v, .bool true]) w := by kernel_rfl
theorem asn0 (w : World) : (Instr.typeAssert .nilIface 20 92 true).run Try.prog w = .ok (.tuple #[.agg #[], .bool false]) w := by kernel_rfl
theorem asn1 (w : World) : (Instr.typeAssert .nilIface 20 89 true).run Try.prog w = .ok (.tuple #[.int .i64 0, .bool false]) w := by kernel_rfl
theorem asn2 (w : World) : (Instr.typeAssert .nilIface 20 90 true).run Try.prog w = .ok (.tuple #[.int .i64 0, .bool false]) w := by kernel_rfl
theorem asn3 (w : World) : (Instr.typeAssert .nilIface 20 93 true).run Try.prog w = .ok (.tuple #[.agg #[], .bool false]) w := by kernel_rfl










end Go.Proofs.Ytpmfijaclncfhaa
