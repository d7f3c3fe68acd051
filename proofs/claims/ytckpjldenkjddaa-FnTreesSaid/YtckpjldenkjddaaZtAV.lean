import Derived.Test.YtckpjldenkjddaaZtAK
section
namespace Go.Proofs.Ytckpjldenkjddaa
open Go.ChangeShapes Go.WideShapes Go.ChangeAt Go.RowKit

theorem ssok (lk ln tk tn rk rn bk bn sk sn ek en : Int) (w : World) :
    Calls Try.prog 119 #[.agg #[.int .i64 lk, .int .i64 ln, .int .i64 tk, .int .i64 tn, .int .i64 rk, .int .i64 rn, .int .i64 bk, .int .i64 bn, .int .i64 sk, .int .i64 sn, .int .i64 ek, .int .i64 en]] w fun e w' => e = .returned (.bool (sdOk lk ln tk tn rk rn bk bn sk sn ek en)) ∧ Below w.heap.size w w' := by
  have hA0 := hp_new w (.cells #[.int .i64 lk, .int .i64 ln, .int .i64 tk, .int .i64 tn, .int .i64 rk, .int .i64 rn, .int .i64 bk, .int .i64 bn, .int .i64 sk, .int .i64 sn, .int .i64 ek, .int .i64 en] 37)
  have bb0 := Go.Joins.below_alloc1 w (.cells #[.int .i64 lk, .int .i64 ln, .int .i64 tk, .int .i64 tn, .int .i64 rk, .int .i64 rn, .int .i64 bk, .int .i64 bn, .int .i64 sk, .int .i64 sn, .int .i64 ek, .int .i64 en] 37)
  have s0 := svok lk ln
  have s1 := svok tk tn
  have s2 := svok rk rn
  have s3 := svok bk bn
  have s4 := svok sk sn
  have s5 := svok ek en
  unfold sdOk
  cases h0 : okV lk ln <;> rw [h0] at s0
  · have hA := hA0
    have bb := bb0
    clear hA0 bb0
    go_enter Try.func119, Try.ntmps119
    go_wp2_with (fail)
    refine (s0 _).mono ?_
    rintro e v0 ⟨rfl, b0⟩
    replace hA := hp_below hA b0
    replace bb := bb.trans (b0.mono bb.size)
    clear b0
    go_wp2
    go_ret
    exact ⟨rfl, bb⟩
  cases h1 : okV tk tn <;> rw [h1] at s1
  · have hA := hA0
    have bb := bb0
    clear hA0 bb0
    go_enter Try.func119, Try.ntmps119
    go_wp2_with (fail)
    refine (s0 _).mono ?_
    rintro e v0 ⟨rfl, b0⟩
    replace hA := hp_below hA b0
    replace bb := bb.trans (b0.mono bb.size)
    clear b0
    have c0 := Go.Joins.cell_of_block hA 2
    have c1 := Go.Joins.cell_of_block hA 3
    simp at c0 c1
    go_wp2_with (fail)
    refine (s1 _).mono ?_
    rintro e v1 ⟨rfl, b1⟩
    clear c0 c1
    replace hA := hp_below hA b1
    replace bb := bb.trans (b1.mono bb.size)
    clear b1
    go_wp2
    go_ret
    exact ⟨rfl, bb⟩
  cases h2 : okV rk rn <;> rw [h2] at s2
  · have hA := hA0
    have bb := bb0
    clear hA0 bb0
    go_enter Try.func119, Try.ntmps119
    go_wp2_with (fail)
    refine (s0 _).mono ?_
    rintro e v0 ⟨rfl, b0⟩
    replace hA := hp_below hA b0
    replace bb := bb.trans (b0.mono bb.size)
    clear b0
    have c0 := Go.Joins.cell_of_block hA 2
    have c1 := Go.Joins.cell_of_block hA 3
    simp at c0 c1
    go_wp2_with (fail)
    refine (s1 _).mono ?_
    rintro e v1 ⟨rfl, b1⟩
    clear c0 c1
    replace hA := hp_below hA b1
    replace bb := bb.trans (b1.mono bb.size)
    clear b1
    have c0 := Go.Joins.cell_of_block hA 4
    have c1 := Go.Joins.cell_of_block hA 5
    simp at c0 c1
    go_wp2_with (fail)
    refine (s2 _).mono ?_
    rintro e v2 ⟨rfl, b2⟩
    clear c0 c1
    replace hA := hp_below hA b2
    replace bb := bb.trans (b2.mono bb.size)
    clear b2
    go_wp2
    go_ret
    exact ⟨rfl, bb⟩
  cases h3 : okV bk bn <;> rw [h3] at s3
  · have hA := hA0
    have bb := bb0
    clear hA0 bb0
    go_enter Try.func119, Try.ntmps119
    go_wp2_with (fail)
    refine (s0 _).mono ?_
    rintro e v0 ⟨rfl, b0⟩
    replace hA := hp_below hA b0
    replace bb := bb.trans (b0.mono bb.size)
    clear b0
    have c0 := Go.Joins.cell_of_block hA 2
    have c1 := Go.Joins.cell_of_block hA 3
    simp at c0 c1
    go_wp2_with (fail)
    refine (s1 _).mono ?_
    rintro e v1 ⟨rfl, b1⟩
    clear c0 c1
    replace hA := hp_below hA b1
    replace bb := bb.trans (b1.mono bb.size)
    clear b1
    have c0 := Go.Joins.cell_of_block hA 4
    have c1 := Go.Joins.cell_of_block hA 5
    simp at c0 c1
    go_wp2_with (fail)
    refine (s2 _).mono ?_
    rintro e v2 ⟨rfl, b2⟩
    clear c0 c1
    replace hA := hp_below hA b2
    replace bb := bb.trans (b2.mono bb.size)
    clear b2
    have c0 := Go.Joins.cell_of_block hA 6
    have c1 := Go.Joins.cell_of_block hA 7
    simp at c0 c1
    go_wp2_with (fail)
    refine (s3 _).mono ?_
    rintro e v3 ⟨rfl, b3⟩
    clear c0 c1
    replace hA := hp_below hA b3
    replace bb := bb.trans (b3.mono bb.size)
    clear b3
    go_wp2
    go_ret
    exact ⟨rfl, bb⟩
  cases h4 : okV sk sn <;> rw [h4] at s4
  · have hA := hA0
    have bb := bb0
    clear hA0 bb0
    go_enter Try.func119, Try.ntmps119
    go_wp2_with (fail)
    refine (s0 _).mono ?_
    rintro e v0 ⟨rfl, b0⟩
    replace hA := hp_below hA b0
    replace bb := bb.trans (b0.mono bb.size)
    clear b0
    have c0 := Go.Joins.cell_of_block hA 2
    have c1 := Go.Joins.cell_of_block hA 3
    simp at c0 c1
    go_wp2_with (fail)
    refine (s1 _).mono ?_
    rintro e v1 ⟨rfl, b1⟩
    clear c0 c1
    replace hA := hp_below hA b1
    replace bb := bb.trans (b1.mono bb.size)
    clear b1
    have c0 := Go.Joins.cell_of_block hA 4
    have c1 := Go.Joins.cell_of_block hA 5
    simp at c0 c1
    go_wp2_with (fail)
    refine (s2 _).mono ?_
    rintro e v2 ⟨rfl, b2⟩
    clear c0 c1
    replace hA := hp_below hA b2
    replace bb := bb.trans (b2.mono bb.size)
    clear b2
    have c0 := Go.Joins.cell_of_block hA 6
    have c1 := Go.Joins.cell_of_block hA 7
    simp at c0 c1
    go_wp2_with (fail)
    refine (s3 _).mono ?_
    rintro e v3 ⟨rfl, b3⟩
    clear c0 c1
    replace hA := hp_below hA b3
    replace bb := bb.trans (b3.mono bb.size)
    clear b3
    have c0 := Go.Joins.cell_of_block hA 8
    have c1 := Go.Joins.cell_of_block hA 9
    simp at c0 c1
    go_wp2_with (fail)
    refine (s4 _).mono ?_
    rintro e v4 ⟨rfl, b4⟩
    clear c0 c1
    replace hA := hp_below hA b4
    replace bb := bb.trans (b4.mono bb.size)
    clear b4
    go_wp2
    go_ret
    exact ⟨rfl, bb⟩
  cases h5 : okV ek en <;> rw [h5] at s5
  · have hA := hA0
    have bb := bb0
    clear hA0 bb0
    go_enter Try.func119, Try.ntmps119
    go_wp2_with (fail)
    refine (s0 _).mono ?_
    rintro e v0 ⟨rfl, b0⟩
    replace hA := hp_below hA b0
    replace bb := bb.trans (b0.mono bb.size)
    clear b0
    have c0 := Go.Joins.cell_of_block hA 2
    have c1 := Go.Joins.cell_of_block hA 3
    simp at c0 c1
    go_wp2_with (fail)
    refine (s1 _).mono ?_
    rintro e v1 ⟨rfl, b1⟩
    clear c0 c1
    replace hA := hp_below hA b1
    replace bb := bb.trans (b1.mono bb.size)
    clear b1
    have c0 := Go.Joins.cell_of_block hA 4
    have c1 := Go.Joins.cell_of_block hA 5
    simp at c0 c1
    go_wp2_with (fail)
    refine (s2 _).mono ?_
    rintro e v2 ⟨rfl, b2⟩
    clear c0 c1
    replace hA := hp_below hA b2
    replace bb := bb.trans (b2.mono bb.size)
    clear b2
    have c0 := Go.Joins.cell_of_block hA 6
    have c1 := Go.Joins.cell_of_block hA 7
    simp at c0 c1
    go_wp2_with (fail)
    refine (s3 _).mono ?_
    rintro e v3 ⟨rfl, b3⟩
    clear c0 c1
    replace hA := hp_below hA b3
    replace bb := bb.trans (b3.mono bb.size)
    clear b3
    have c0 := Go.Joins.cell_of_block hA 8
    have c1 := Go.Joins.cell_of_block hA 9
    simp at c0 c1
    go_wp2_with (fail)
    refine (s4 _).mono ?_
    rintro e v4 ⟨rfl, b4⟩
    clear c0 c1
    replace hA := hp_below hA b4
    replace bb := bb.trans (b4.mono bb.size)
    clear b4
    have c0 := Go.Joins.cell_of_block hA 10
    have c1 := Go.Joins.cell_of_block hA 11
    simp at c0 c1
    go_wp2_with (fail)
    refine (s5 _).mono ?_
    rintro e v5 ⟨rfl, b5⟩
    clear c0 c1
    replace hA := hp_below hA b5
    replace bb := bb.trans (b5.mono bb.size)
    clear b5
    go_wp2
    go_ret
    exact ⟨rfl, bb⟩
  · have hA := hA0
    have bb := bb0
    clear hA0 bb0
    go_enter Try.func119, Try.ntmps119
    go_wp2_with (fail)
    refine (s0 _).mono ?_
    rintro e v0 ⟨rfl, b0⟩
    replace hA := hp_below hA b0
    replace bb := bb.trans (b0.mono bb.size)
    clear b0
    have c0 := Go.Joins.cell_of_block hA 2
    have c1 := Go.Joins.cell_of_block hA 3
    simp at c0 c1
    go_wp2_with (fail)
    refine (s1 _).mono ?_
    rintro e v1 ⟨rfl, b1⟩
    clear c0 c1
    replace hA := hp_below hA b1
    replace bb := bb.trans (b1.mono bb.size)
    clear b1
    have c0 := Go.Joins.cell_of_block hA 4
    have c1 := Go.Joins.cell_of_block hA 5
    simp at c0 c1
    go_wp2_with (fail)
    refine (s2 _).mono ?_
    rintro e v2 ⟨rfl, b2⟩
    clear c0 c1
    replace hA := hp_below hA b2
    replace bb := bb.trans (b2.mono bb.size)
    clear b2
    have c0 := Go.Joins.cell_of_block hA 6
    have c1 := Go.Joins.cell_of_block hA 7
    simp at c0 c1
    go_wp2_with (fail)
    refine (s3 _).mono ?_
    rintro e v3 ⟨rfl, b3⟩
    clear c0 c1
    replace hA := hp_below hA b3
    replace bb := bb.trans (b3.mono bb.size)
    clear b3
    have c0 := Go.Joins.cell_of_block hA 8
    have c1 := Go.Joins.cell_of_block hA 9
    simp at c0 c1
    go_wp2_with (fail)
    refine (s4 _).mono ?_
    rintro e v4 ⟨rfl, b4⟩
    clear c0 c1
    replace hA := hp_below hA b4
    replace bb := bb.trans (b4.mono bb.size)
    clear b4
    have c0 := Go.Joins.cell_of_block hA 10
    have c1 := Go.Joins.cell_of_block hA 11
    simp at c0 c1
    go_wp2_with (fail)
    refine (s5 _).mono ?_
    rintro e v5 ⟨rfl, b5⟩
    clear c0 c1
    replace hA := hp_below hA b5
    replace bb := bb.trans (b5.mono bb.size)
    clear b5
    go_wp2
    go_ret
    exact ⟨rfl, bb⟩
end Go.Proofs.Ytckpjldenkjddaa
end
