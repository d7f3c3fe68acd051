/-
  The end of laws.FnAligned, behind its loops (used by the law's walk): PlaceAcross, CrossOf, BaseOf, SideOk, OnBase and Fills are the model's; a line of valid Sides is as high as each of them; who is put to the end ends where the line does; who is on the base line has its base there; the code reads as before. Conditions: none.
-/
import Derived.Test.YtdpibpelghnihaaSaC
import Derived.Test.YtdpibpelghnihaaSaG
import Derived.Test.YtdpibpelghnihaaSaH
namespace Go.Proofs.Ytdpibpelghnihaa.fnAligned
open Go.ChangeShapes Go.WideShapes Go.ChangeAt Go.RowKit
set_option linter.unusedVariables false
set_option linter.unusedSimpArgs false
set_option maxRecDepth 20000

def snd' : Go.Code → Go.Code
  | .seq _ b => b
  | c => c
def restN : Nat → Go.Code → Go.Code
  | 0, c => c
  | n + 1, c => restN n (snd' c)
theorem wp_rest {P : Program} {n : Nat} {fn : Func} {c : Go.Code} {Q : Exit → Act → World → Prop} {a : Act} {w : World} (hb : fn.body = some c) (h : Go.Code.wp P (restN n c) Q a w) : Go.Code.wp P (restN n (fn.body.getD .skip)) Q a w := by
  rw [hb]; exact h
set_option maxRecDepth 100000 in
set_option maxHeartbeats 8000000 in
theorem tail17 (a : Option Addr) (len cap : Nat) (w wq : World) (s f h l b : Int) (p q : Bool) (cross base P : Int) (gx : Nat) (u1 u2 u7 u8 u9 u10 u11 u12 u13 u14 u15 u16 u17 u18 u19 u20 u21 u22 u23 u24 u25 u26 u27 u28 u29 u30 u31 u32 u33 u34 u35 u36 u37 u38 u39 u40 u41 u42 u43 u44 u45 u46 u47 u48 u49 u50 u51 u52 u53 u54 u55 u56 u57 u58 u59 u60 u61 u62 u63 u64 u65 u66 u67 u68 u69 u70 u71 u72 u73 u74 u75 u76 u77 u78 u79 u80 u81 u82 u83 u84 u85 u86 u87 u88 u89 u90 u91 u92 u93 u94 u95 u96 u97 u98 u99 u100 u101 u102 u103 u104 u105 u106 u107 u108 u109 u110 u111 u112 u113 u114 u115 u116 u117 u118 u119 u120 u121 u122 u123 u124 u125 u126 u127 u128 u129 u130 u131 u132 u133 u134 u135 u136 u137 u138 u139 u140 u141 u142 u143 u144 u145 u146 u147 u148 u149 u150 u151 u152 u153 u154 u155 u156 u157 u158 u159 u160 u161 u162 u163 u164 u165 u166 u167 u168 u169 u170 u171 u172 u173 u174 u175 u176 u177 u178 u179 u180 u181 u182 u183 u184 u185 u186 u187 u188 u189 u190 u191 : Value)
    (hX : wq.heap[gx]? = some (.cells #[.int .i64 s, .int .i64 f, .int .i64 h, .bool p, .bool q, .int .i64 l, .int .i64 b] 25)) (hB : Below w.heap.size w wq) (hP : P = paA ⟨s, f, h, p, q, l, b⟩ cross base) (c0 : 0 ≤ cross) (c1 : cross ≤ 1000) (d0 : 0 ≤ base) (d1 : base ≤ 300) :
    Go.Code.wp Try.prog (restN 11 (Try.f3.body.getD .skip)) (bodyPost Try.prog Try.f3 (fun e w' => e = .returned (.bool true) ∧ Below w.heap.size w w')) { tmps := #[.slice a len cap, u1, u2, .pointer (some ⟨gx, 0, none⟩), .int .i64 cross, .int .i64 base, .int .i64 P, u7, u8, u9, u10, u11, u12, u13, u14, u15, u16, u17, u18, u19, u20, u21, u22, u23, u24, u25, u26, u27, u28, u29, u30, u31, u32, u33, u34, u35, u36, u37, u38, u39, u40, u41, u42, u43, u44, u45, u46, u47, u48, u49, u50, u51, u52, u53, u54, u55, u56, u57, u58, u59, u60, u61, u62, u63, u64, u65, u66, u67, u68, u69, u70, u71, u72, u73, u74, u75, u76, u77, u78, u79, u80, u81, u82, u83, u84, u85, u86, u87, u88, u89, u90, u91, u92, u93, u94, u95, u96, u97, u98, u99, u100, u101, u102, u103, u104, u105, u106, u107, u108, u109, u110, u111, u112, u113, u114, u115, u116, u117, u118, u119, u120, u121, u122, u123, u124, u125, u126, u127, u128, u129, u130, u131, u132, u133, u134, u135, u136, u137, u138, u139, u140, u141, u142, u143, u144, u145, u146, u147, u148, u149, u150, u151, u152, u153, u154, u155, u156, u157, u158, u159, u160, u161, u162, u163, u164, u165, u166, u167, u168, u169, u170, u171, u172, u173, u174, u175, u176, u177, u178, u179, u180, u181, u182, u183, u184, u185, u186, u187, u188, u189, u190, u191], defers := [] } wq := by
  have KO := Lib.hid (fun w => ssaok ⟨s, f, h, p, q, l, b⟩ w)
  have KN := Lib.hid (fun w => sson ⟨s, f, h, p, q, l, b⟩ w)
  have ke := fun w => iplaceacross ⟨20, 0, 5, false, false, 3, 0⟩ 100 0 w
  simp only [end_75] at ke
  have KE := Lib.hid ke
  clear ke
  have hend : saOk ⟨s, f, h, p, q, l, b⟩ = true → (p || q) = false → l = 3 → wrap64 (wrap64 (P + s) + h) = cross := fun h1 h2 h3 => by rw [hP]; exact end_fit (x := ⟨s, f, h, p, q, l, b⟩) h1 h2 h3 c0 c1
  have hbas : saOk ⟨s, f, h, p, q, l, b⟩ = true → saOn ⟨s, f, h, p, q, l, b⟩ = true → wrap64 (P + b) = base := fun h1 h2 => by rw [hP]; exact base_fit (x := ⟨s, f, h, p, q, l, b⟩) h1 h2 d0 d1
  have hno : saOn ⟨s, f, h, p, q, l, b⟩ = true → p = false ∧ q = false ∧ l = 5 := fun h1 => on_no (x := ⟨s, f, h, p, q, l, b⟩) h1
  clear hP
  generalize saOk ⟨s, f, h, p, q, l, b⟩ = t at *
  generalize saOn ⟨s, f, h, p, q, l, b⟩ = n at *
  have hV := hp_on hX (.cells #[.int .i64 20, .int .i64 0, .int .i64 5, .bool false, .bool false, .int .i64 3, .int .i64 0] 25)
  have hE := hp_new wq (.cells #[.int .i64 20, .int .i64 0, .int .i64 5, .bool false, .bool false, .int .i64 3, .int .i64 0] 25)
  have bv := hB.alloc hB.size (.cells #[.int .i64 20, .int .i64 0, .int .i64 5, .bool false, .bool false, .int .i64 3, .int .i64 0] 25)
  obtain ⟨v, ev⟩ : ∃ v, v = wq.alloc (.cells #[.int .i64 20, .int .i64 0, .int .i64 5, .bool false, .bool false, .int .i64 3, .int .i64 0] 25) := ⟨_, rfl⟩
  rw [← ev] at hV hE bv
  have EV := Lib.hid ev
  have BB := Lib.hid bv
  clear ev bv hX hB
  have N0 : v.cell? ⟨gx, 0, none⟩ = some (.int .i64 s) := Go.Joins.cell_of_block hV 0
  have N1 : v.cell? ⟨gx, 1, none⟩ = some (.int .i64 f) := Go.Joins.cell_of_block hV 1
  have N2 : v.cell? ⟨gx, 2, none⟩ = some (.int .i64 h) := Go.Joins.cell_of_block hV 2
  have N3 : v.cell? ⟨gx, 3, none⟩ = some (.bool p) := Go.Joins.cell_of_block hV 3
  have N4 : v.cell? ⟨gx, 4, none⟩ = some (.bool q) := Go.Joins.cell_of_block hV 4
  have N5 : v.cell? ⟨gx, 5, none⟩ = some (.int .i64 l) := Go.Joins.cell_of_block hV 5
  have N6 : v.cell? ⟨gx, 6, none⟩ = some (.int .i64 b) := Go.Joins.cell_of_block hV 6
  have E0 : v.cell? ⟨wq.heap.size, 0, none⟩ = some (.int .i64 20) := Go.Joins.cell_of_block hE 0
  have E1 : v.cell? ⟨wq.heap.size, 1, none⟩ = some (.int .i64 0) := Go.Joins.cell_of_block hE 1
  have E2 : v.cell? ⟨wq.heap.size, 2, none⟩ = some (.int .i64 5) := Go.Joins.cell_of_block hE 2
  have E3 : v.cell? ⟨wq.heap.size, 3, none⟩ = some (.bool false) := Go.Joins.cell_of_block hE 3
  have E4 : v.cell? ⟨wq.heap.size, 4, none⟩ = some (.bool false) := Go.Joins.cell_of_block hE 4
  have E5 : v.cell? ⟨wq.heap.size, 5, none⟩ = some (.int .i64 3) := Go.Joins.cell_of_block hE 5
  have E6 : v.cell? ⟨wq.heap.size, 6, none⟩ = some (.int .i64 0) := Go.Joins.cell_of_block hE 6
  clear hV hE
  refine wp_rest rfl ?_
  simp only [restN, snd']
  cases n
  · clear hno hbas
    cases t
    · clear hend
      cases p
      · cases q
        · as_aux_lemma =>
            go_wp2_with (first | (rw [← EV.out]) | (go_at_call 20; refine (KO.out _).mono ?_; rintro e wn ⟨rfl, bk⟩; replace N0 := cell_sa N0 bk; replace N1 := cell_sa N1 bk; replace N2 := cell_sa N2 bk; replace N3 := cell_sa N3 bk; replace N4 := cell_sa N4 bk; replace N5 := cell_sa N5 bk; replace N6 := cell_sa N6 bk; replace E0 := cell_sa E0 bk; replace E1 := cell_sa E1 bk; replace E2 := cell_sa E2 bk; replace E3 := cell_sa E3 bk; replace E4 := cell_sa E4 bk; replace E5 := cell_sa E5 bk; replace E6 := cell_sa E6 bk; replace BB := Lib.hid (BB.out.trans (bk.mono BB.out.size)); clear bk; (try dsimp only)) | (go_at_call 22; refine (KN.out _).mono ?_; rintro e wn ⟨rfl, bk⟩; replace N0 := cell_sa N0 bk; replace N1 := cell_sa N1 bk; replace N2 := cell_sa N2 bk; replace N3 := cell_sa N3 bk; replace N4 := cell_sa N4 bk; replace N5 := cell_sa N5 bk; replace N6 := cell_sa N6 bk; replace E0 := cell_sa E0 bk; replace E1 := cell_sa E1 bk; replace E2 := cell_sa E2 bk; replace E3 := cell_sa E3 bk; replace E4 := cell_sa E4 bk; replace E5 := cell_sa E5 bk; replace E6 := cell_sa E6 bk; replace BB := Lib.hid (BB.out.trans (bk.mono BB.out.size)); clear bk; (try dsimp only)) | (go_at_call 12; refine (KE.out _).mono ?_; rintro e wn ⟨rfl, bk⟩; replace N0 := cell_sa N0 bk; replace N1 := cell_sa N1 bk; replace N2 := cell_sa N2 bk; replace N3 := cell_sa N3 bk; replace N4 := cell_sa N4 bk; replace N5 := cell_sa N5 bk; replace N6 := cell_sa N6 bk; replace E0 := cell_sa E0 bk; replace E1 := cell_sa E1 bk; replace E2 := cell_sa E2 bk; replace E3 := cell_sa E3 bk; replace E4 := cell_sa E4 bk; replace E5 := cell_sa E5 bk; replace E6 := cell_sa E6 bk; replace BB := Lib.hid (BB.out.trans (bk.mono BB.out.size)); clear bk; (try dsimp only)) | fail)
            go_ret
            exact ⟨rfl, BB.out⟩
        · as_aux_lemma =>
            go_wp2_with (first | (rw [← EV.out]) | (go_at_call 20; refine (KO.out _).mono ?_; rintro e wn ⟨rfl, bk⟩; replace N0 := cell_sa N0 bk; replace N1 := cell_sa N1 bk; replace N2 := cell_sa N2 bk; replace N3 := cell_sa N3 bk; replace N4 := cell_sa N4 bk; replace N5 := cell_sa N5 bk; replace N6 := cell_sa N6 bk; replace E0 := cell_sa E0 bk; replace E1 := cell_sa E1 bk; replace E2 := cell_sa E2 bk; replace E3 := cell_sa E3 bk; replace E4 := cell_sa E4 bk; replace E5 := cell_sa E5 bk; replace E6 := cell_sa E6 bk; replace BB := Lib.hid (BB.out.trans (bk.mono BB.out.size)); clear bk; (try dsimp only)) | (go_at_call 22; refine (KN.out _).mono ?_; rintro e wn ⟨rfl, bk⟩; replace N0 := cell_sa N0 bk; replace N1 := cell_sa N1 bk; replace N2 := cell_sa N2 bk; replace N3 := cell_sa N3 bk; replace N4 := cell_sa N4 bk; replace N5 := cell_sa N5 bk; replace N6 := cell_sa N6 bk; replace E0 := cell_sa E0 bk; replace E1 := cell_sa E1 bk; replace E2 := cell_sa E2 bk; replace E3 := cell_sa E3 bk; replace E4 := cell_sa E4 bk; replace E5 := cell_sa E5 bk; replace E6 := cell_sa E6 bk; replace BB := Lib.hid (BB.out.trans (bk.mono BB.out.size)); clear bk; (try dsimp only)) | (go_at_call 12; refine (KE.out _).mono ?_; rintro e wn ⟨rfl, bk⟩; replace N0 := cell_sa N0 bk; replace N1 := cell_sa N1 bk; replace N2 := cell_sa N2 bk; replace N3 := cell_sa N3 bk; replace N4 := cell_sa N4 bk; replace N5 := cell_sa N5 bk; replace N6 := cell_sa N6 bk; replace E0 := cell_sa E0 bk; replace E1 := cell_sa E1 bk; replace E2 := cell_sa E2 bk; replace E3 := cell_sa E3 bk; replace E4 := cell_sa E4 bk; replace E5 := cell_sa E5 bk; replace E6 := cell_sa E6 bk; replace BB := Lib.hid (BB.out.trans (bk.mono BB.out.size)); clear bk; (try dsimp only)) | fail)
            go_ret
            exact ⟨rfl, BB.out⟩
      · as_aux_lemma =>
          go_wp2_with (first | (rw [← EV.out]) | (go_at_call 20; refine (KO.out _).mono ?_; rintro e wn ⟨rfl, bk⟩; replace N0 := cell_sa N0 bk; replace N1 := cell_sa N1 bk; replace N2 := cell_sa N2 bk; replace N3 := cell_sa N3 bk; replace N4 := cell_sa N4 bk; replace N5 := cell_sa N5 bk; replace N6 := cell_sa N6 bk; replace E0 := cell_sa E0 bk; replace E1 := cell_sa E1 bk; replace E2 := cell_sa E2 bk; replace E3 := cell_sa E3 bk; replace E4 := cell_sa E4 bk; replace E5 := cell_sa E5 bk; replace E6 := cell_sa E6 bk; replace BB := Lib.hid (BB.out.trans (bk.mono BB.out.size)); clear bk; (try dsimp only)) | (go_at_call 22; refine (KN.out _).mono ?_; rintro e wn ⟨rfl, bk⟩; replace N0 := cell_sa N0 bk; replace N1 := cell_sa N1 bk; replace N2 := cell_sa N2 bk; replace N3 := cell_sa N3 bk; replace N4 := cell_sa N4 bk; replace N5 := cell_sa N5 bk; replace N6 := cell_sa N6 bk; replace E0 := cell_sa E0 bk; replace E1 := cell_sa E1 bk; replace E2 := cell_sa E2 bk; replace E3 := cell_sa E3 bk; replace E4 := cell_sa E4 bk; replace E5 := cell_sa E5 bk; replace E6 := cell_sa E6 bk; replace BB := Lib.hid (BB.out.trans (bk.mono BB.out.size)); clear bk; (try dsimp only)) | (go_at_call 12; refine (KE.out _).mono ?_; rintro e wn ⟨rfl, bk⟩; replace N0 := cell_sa N0 bk; replace N1 := cell_sa N1 bk; replace N2 := cell_sa N2 bk; replace N3 := cell_sa N3 bk; replace N4 := cell_sa N4 bk; replace N5 := cell_sa N5 bk; replace N6 := cell_sa N6 bk; replace E0 := cell_sa E0 bk; replace E1 := cell_sa E1 bk; replace E2 := cell_sa E2 bk; replace E3 := cell_sa E3 bk; replace E4 := cell_sa E4 bk; replace E5 := cell_sa E5 bk; replace E6 := cell_sa E6 bk; replace BB := Lib.hid (BB.out.trans (bk.mono BB.out.size)); clear bk; (try dsimp only)) | fail)
          go_ret
          exact ⟨rfl, BB.out⟩
    · cases p
      · cases q
        · by_cases h3 : l = 3
          · subst h3
            have he := hend rfl rfl rfl
            clear hend
            as_aux_lemma =>
              go_wp2_with (first | (rw [← EV.out]) | (go_at_call 20; refine (KO.out _).mono ?_; rintro e wn ⟨rfl, bk⟩; replace N0 := cell_sa N0 bk; replace N1 := cell_sa N1 bk; replace N2 := cell_sa N2 bk; replace N3 := cell_sa N3 bk; replace N4 := cell_sa N4 bk; replace N5 := cell_sa N5 bk; replace N6 := cell_sa N6 bk; replace E0 := cell_sa E0 bk; replace E1 := cell_sa E1 bk; replace E2 := cell_sa E2 bk; replace E3 := cell_sa E3 bk; replace E4 := cell_sa E4 bk; replace E5 := cell_sa E5 bk; replace E6 := cell_sa E6 bk; replace BB := Lib.hid (BB.out.trans (bk.mono BB.out.size)); clear bk; (try dsimp only)) | (go_at_call 22; refine (KN.out _).mono ?_; rintro e wn ⟨rfl, bk⟩; replace N0 := cell_sa N0 bk; replace N1 := cell_sa N1 bk; replace N2 := cell_sa N2 bk; replace N3 := cell_sa N3 bk; replace N4 := cell_sa N4 bk; replace N5 := cell_sa N5 bk; replace N6 := cell_sa N6 bk; replace E0 := cell_sa E0 bk; replace E1 := cell_sa E1 bk; replace E2 := cell_sa E2 bk; replace E3 := cell_sa E3 bk; replace E4 := cell_sa E4 bk; replace E5 := cell_sa E5 bk; replace E6 := cell_sa E6 bk; replace BB := Lib.hid (BB.out.trans (bk.mono BB.out.size)); clear bk; (try dsimp only)) | (go_at_call 12; refine (KE.out _).mono ?_; rintro e wn ⟨rfl, bk⟩; replace N0 := cell_sa N0 bk; replace N1 := cell_sa N1 bk; replace N2 := cell_sa N2 bk; replace N3 := cell_sa N3 bk; replace N4 := cell_sa N4 bk; replace N5 := cell_sa N5 bk; replace N6 := cell_sa N6 bk; replace E0 := cell_sa E0 bk; replace E1 := cell_sa E1 bk; replace E2 := cell_sa E2 bk; replace E3 := cell_sa E3 bk; replace E4 := cell_sa E4 bk; replace E5 := cell_sa E5 bk; replace E6 := cell_sa E6 bk; replace BB := Lib.hid (BB.out.trans (bk.mono BB.out.size)); clear bk; (try dsimp only)) | fail)
              go_ret
              exact ⟨rfl, BB.out⟩
          · clear hend
            have n3 : (l == 3) = false := by simp [h3]
            as_aux_lemma =>
              go_wp2_with (first | (rw [← EV.out]) | (go_at_call 20; refine (KO.out _).mono ?_; rintro e wn ⟨rfl, bk⟩; replace N0 := cell_sa N0 bk; replace N1 := cell_sa N1 bk; replace N2 := cell_sa N2 bk; replace N3 := cell_sa N3 bk; replace N4 := cell_sa N4 bk; replace N5 := cell_sa N5 bk; replace N6 := cell_sa N6 bk; replace E0 := cell_sa E0 bk; replace E1 := cell_sa E1 bk; replace E2 := cell_sa E2 bk; replace E3 := cell_sa E3 bk; replace E4 := cell_sa E4 bk; replace E5 := cell_sa E5 bk; replace E6 := cell_sa E6 bk; replace BB := Lib.hid (BB.out.trans (bk.mono BB.out.size)); clear bk; (try dsimp only)) | (go_at_call 22; refine (KN.out _).mono ?_; rintro e wn ⟨rfl, bk⟩; replace N0 := cell_sa N0 bk; replace N1 := cell_sa N1 bk; replace N2 := cell_sa N2 bk; replace N3 := cell_sa N3 bk; replace N4 := cell_sa N4 bk; replace N5 := cell_sa N5 bk; replace N6 := cell_sa N6 bk; replace E0 := cell_sa E0 bk; replace E1 := cell_sa E1 bk; replace E2 := cell_sa E2 bk; replace E3 := cell_sa E3 bk; replace E4 := cell_sa E4 bk; replace E5 := cell_sa E5 bk; replace E6 := cell_sa E6 bk; replace BB := Lib.hid (BB.out.trans (bk.mono BB.out.size)); clear bk; (try dsimp only)) | (go_at_call 12; refine (KE.out _).mono ?_; rintro e wn ⟨rfl, bk⟩; replace N0 := cell_sa N0 bk; replace N1 := cell_sa N1 bk; replace N2 := cell_sa N2 bk; replace N3 := cell_sa N3 bk; replace N4 := cell_sa N4 bk; replace N5 := cell_sa N5 bk; replace N6 := cell_sa N6 bk; replace E0 := cell_sa E0 bk; replace E1 := cell_sa E1 bk; replace E2 := cell_sa E2 bk; replace E3 := cell_sa E3 bk; replace E4 := cell_sa E4 bk; replace E5 := cell_sa E5 bk; replace E6 := cell_sa E6 bk; replace BB := Lib.hid (BB.out.trans (bk.mono BB.out.size)); clear bk; (try dsimp only)) | fail)
              go_ret
              exact ⟨rfl, BB.out⟩
        · clear hend
          as_aux_lemma =>
            go_wp2_with (first | (rw [← EV.out]) | (go_at_call 20; refine (KO.out _).mono ?_; rintro e wn ⟨rfl, bk⟩; replace N0 := cell_sa N0 bk; replace N1 := cell_sa N1 bk; replace N2 := cell_sa N2 bk; replace N3 := cell_sa N3 bk; replace N4 := cell_sa N4 bk; replace N5 := cell_sa N5 bk; replace N6 := cell_sa N6 bk; replace E0 := cell_sa E0 bk; replace E1 := cell_sa E1 bk; replace E2 := cell_sa E2 bk; replace E3 := cell_sa E3 bk; replace E4 := cell_sa E4 bk; replace E5 := cell_sa E5 bk; replace E6 := cell_sa E6 bk; replace BB := Lib.hid (BB.out.trans (bk.mono BB.out.size)); clear bk; (try dsimp only)) | (go_at_call 22; refine (KN.out _).mono ?_; rintro e wn ⟨rfl, bk⟩; replace N0 := cell_sa N0 bk; replace N1 := cell_sa N1 bk; replace N2 := cell_sa N2 bk; replace N3 := cell_sa N3 bk; replace N4 := cell_sa N4 bk; replace N5 := cell_sa N5 bk; replace N6 := cell_sa N6 bk; replace E0 := cell_sa E0 bk; replace E1 := cell_sa E1 bk; replace E2 := cell_sa E2 bk; replace E3 := cell_sa E3 bk; replace E4 := cell_sa E4 bk; replace E5 := cell_sa E5 bk; replace E6 := cell_sa E6 bk; replace BB := Lib.hid (BB.out.trans (bk.mono BB.out.size)); clear bk; (try dsimp only)) | (go_at_call 12; refine (KE.out _).mono ?_; rintro e wn ⟨rfl, bk⟩; replace N0 := cell_sa N0 bk; replace N1 := cell_sa N1 bk; replace N2 := cell_sa N2 bk; replace N3 := cell_sa N3 bk; replace N4 := cell_sa N4 bk; replace N5 := cell_sa N5 bk; replace N6 := cell_sa N6 bk; replace E0 := cell_sa E0 bk; replace E1 := cell_sa E1 bk; replace E2 := cell_sa E2 bk; replace E3 := cell_sa E3 bk; replace E4 := cell_sa E4 bk; replace E5 := cell_sa E5 bk; replace E6 := cell_sa E6 bk; replace BB := Lib.hid (BB.out.trans (bk.mono BB.out.size)); clear bk; (try dsimp only)) | fail)
            go_ret
            exact ⟨rfl, BB.out⟩
      · clear hend
        as_aux_lemma =>
          go_wp2_with (first | (rw [← EV.out]) | (go_at_call 20; refine (KO.out _).mono ?_; rintro e wn ⟨rfl, bk⟩; replace N0 := cell_sa N0 bk; replace N1 := cell_sa N1 bk; replace N2 := cell_sa N2 bk; replace N3 := cell_sa N3 bk; replace N4 := cell_sa N4 bk; replace N5 := cell_sa N5 bk; replace N6 := cell_sa N6 bk; replace E0 := cell_sa E0 bk; replace E1 := cell_sa E1 bk; replace E2 := cell_sa E2 bk; replace E3 := cell_sa E3 bk; replace E4 := cell_sa E4 bk; replace E5 := cell_sa E5 bk; replace E6 := cell_sa E6 bk; replace BB := Lib.hid (BB.out.trans (bk.mono BB.out.size)); clear bk; (try dsimp only)) | (go_at_call 22; refine (KN.out _).mono ?_; rintro e wn ⟨rfl, bk⟩; replace N0 := cell_sa N0 bk; replace N1 := cell_sa N1 bk; replace N2 := cell_sa N2 bk; replace N3 := cell_sa N3 bk; replace N4 := cell_sa N4 bk; replace N5 := cell_sa N5 bk; replace N6 := cell_sa N6 bk; replace E0 := cell_sa E0 bk; replace E1 := cell_sa E1 bk; replace E2 := cell_sa E2 bk; replace E3 := cell_sa E3 bk; replace E4 := cell_sa E4 bk; replace E5 := cell_sa E5 bk; replace E6 := cell_sa E6 bk; replace BB := Lib.hid (BB.out.trans (bk.mono BB.out.size)); clear bk; (try dsimp only)) | (go_at_call 12; refine (KE.out _).mono ?_; rintro e wn ⟨rfl, bk⟩; replace N0 := cell_sa N0 bk; replace N1 := cell_sa N1 bk; replace N2 := cell_sa N2 bk; replace N3 := cell_sa N3 bk; replace N4 := cell_sa N4 bk; replace N5 := cell_sa N5 bk; replace N6 := cell_sa N6 bk; replace E0 := cell_sa E0 bk; replace E1 := cell_sa E1 bk; replace E2 := cell_sa E2 bk; replace E3 := cell_sa E3 bk; replace E4 := cell_sa E4 bk; replace E5 := cell_sa E5 bk; replace E6 := cell_sa E6 bk; replace BB := Lib.hid (BB.out.trans (bk.mono BB.out.size)); clear bk; (try dsimp only)) | fail)
          go_ret
          exact ⟨rfl, BB.out⟩
  · obtain ⟨rfl, rfl, rfl⟩ := hno rfl
    clear hno hend
    cases t
    · clear hbas
      as_aux_lemma =>
        go_wp2_with (first | (rw [← EV.out]) | (go_at_call 20; refine (KO.out _).mono ?_; rintro e wn ⟨rfl, bk⟩; replace N0 := cell_sa N0 bk; replace N1 := cell_sa N1 bk; replace N2 := cell_sa N2 bk; replace N3 := cell_sa N3 bk; replace N4 := cell_sa N4 bk; replace N5 := cell_sa N5 bk; replace N6 := cell_sa N6 bk; replace E0 := cell_sa E0 bk; replace E1 := cell_sa E1 bk; replace E2 := cell_sa E2 bk; replace E3 := cell_sa E3 bk; replace E4 := cell_sa E4 bk; replace E5 := cell_sa E5 bk; replace E6 := cell_sa E6 bk; replace BB := Lib.hid (BB.out.trans (bk.mono BB.out.size)); clear bk; (try dsimp only)) | (go_at_call 22; refine (KN.out _).mono ?_; rintro e wn ⟨rfl, bk⟩; replace N0 := cell_sa N0 bk; replace N1 := cell_sa N1 bk; replace N2 := cell_sa N2 bk; replace N3 := cell_sa N3 bk; replace N4 := cell_sa N4 bk; replace N5 := cell_sa N5 bk; replace N6 := cell_sa N6 bk; replace E0 := cell_sa E0 bk; replace E1 := cell_sa E1 bk; replace E2 := cell_sa E2 bk; replace E3 := cell_sa E3 bk; replace E4 := cell_sa E4 bk; replace E5 := cell_sa E5 bk; replace E6 := cell_sa E6 bk; replace BB := Lib.hid (BB.out.trans (bk.mono BB.out.size)); clear bk; (try dsimp only)) | (go_at_call 12; refine (KE.out _).mono ?_; rintro e wn ⟨rfl, bk⟩; replace N0 := cell_sa N0 bk; replace N1 := cell_sa N1 bk; replace N2 := cell_sa N2 bk; replace N3 := cell_sa N3 bk; replace N4 := cell_sa N4 bk; replace N5 := cell_sa N5 bk; replace N6 := cell_sa N6 bk; replace E0 := cell_sa E0 bk; replace E1 := cell_sa E1 bk; replace E2 := cell_sa E2 bk; replace E3 := cell_sa E3 bk; replace E4 := cell_sa E4 bk; replace E5 := cell_sa E5 bk; replace E6 := cell_sa E6 bk; replace BB := Lib.hid (BB.out.trans (bk.mono BB.out.size)); clear bk; (try dsimp only)) | fail)
        go_ret
        exact ⟨rfl, BB.out⟩
    · have hb := hbas rfl rfl
      clear hbas
      as_aux_lemma =>
        go_wp2_with (first | (rw [← EV.out]) | (go_at_call 20; refine (KO.out _).mono ?_; rintro e wn ⟨rfl, bk⟩; replace N0 := cell_sa N0 bk; replace N1 := cell_sa N1 bk; replace N2 := cell_sa N2 bk; replace N3 := cell_sa N3 bk; replace N4 := cell_sa N4 bk; replace N5 := cell_sa N5 bk; replace N6 := cell_sa N6 bk; replace E0 := cell_sa E0 bk; replace E1 := cell_sa E1 bk; replace E2 := cell_sa E2 bk; replace E3 := cell_sa E3 bk; replace E4 := cell_sa E4 bk; replace E5 := cell_sa E5 bk; replace E6 := cell_sa E6 bk; replace BB := Lib.hid (BB.out.trans (bk.mono BB.out.size)); clear bk; (try dsimp only)) | (go_at_call 22; refine (KN.out _).mono ?_; rintro e wn ⟨rfl, bk⟩; replace N0 := cell_sa N0 bk; replace N1 := cell_sa N1 bk; replace N2 := cell_sa N2 bk; replace N3 := cell_sa N3 bk; replace N4 := cell_sa N4 bk; replace N5 := cell_sa N5 bk; replace N6 := cell_sa N6 bk; replace E0 := cell_sa E0 bk; replace E1 := cell_sa E1 bk; replace E2 := cell_sa E2 bk; replace E3 := cell_sa E3 bk; replace E4 := cell_sa E4 bk; replace E5 := cell_sa E5 bk; replace E6 := cell_sa E6 bk; replace BB := Lib.hid (BB.out.trans (bk.mono BB.out.size)); clear bk; (try dsimp only)) | (go_at_call 12; refine (KE.out _).mono ?_; rintro e wn ⟨rfl, bk⟩; replace N0 := cell_sa N0 bk; replace N1 := cell_sa N1 bk; replace N2 := cell_sa N2 bk; replace N3 := cell_sa N3 bk; replace N4 := cell_sa N4 bk; replace N5 := cell_sa N5 bk; replace N6 := cell_sa N6 bk; replace E0 := cell_sa E0 bk; replace E1 := cell_sa E1 bk; replace E2 := cell_sa E2 bk; replace E3 := cell_sa E3 bk; replace E4 := cell_sa E4 bk; replace E5 := cell_sa E5 bk; replace E6 := cell_sa E6 bk; replace BB := Lib.hid (BB.out.trans (bk.mono BB.out.size)); clear bk; (try dsimp only)) | fail)
        go_ret
        exact ⟨rfl, BB.out⟩
end Go.Proofs.Ytdpibpelghnihaa.fnAligned
