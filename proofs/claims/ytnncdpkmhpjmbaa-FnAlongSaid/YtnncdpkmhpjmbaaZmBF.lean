import Derived.Deep.RegionWith
import Derived.Test.YtnncdpkmhpjmbaaZmBB
import Derived.Test.YtnncdpkmhpjmbaaZmBE
section
namespace Go.Proofs.Ytnncdpkmhpjmbaa
open Go.ChangeShapes Go.WideShapes Go.ChangeAt Go.RowKit
set_option linter.unusedVariables false
set_option linter.unusedSimpArgs false
set_option maxRecDepth 20000

def sndC : Go.Code → Go.Code
  | .seq _ b => b
  | c => c
def restC : Nat → Go.Code → Go.Code
  | 0, c => c
  | n + 1, c => restC n (sndC c)
theorem wp_restC {P : Program} {n : Nat} {fn : Func} {c : Go.Code} {Q : Exit → Act → World → Prop} {a : Act} {w : World} (hb : fn.body = some c) (h : Go.Code.wp P (restC n c) Q a w) : Go.Code.wp P (restC n (fn.body.getD .skip)) Q a w := by
  rw [hb]; exact h
namespace SxM
variable {w0 : World} {f : Fx} {a : Option Addr} {cap fb zb hb n hc zc : Nat} {hv zv : Value} {hs : List Bool} {zs : List Int} {p : Nat} {w : World}
theorem putZ (M : SxM w0 f a cap fb hv (.slice (some ⟨zb, 0, none⟩) n zc) hs zs p w) (hl : zs.length = n) {k : Nat} (hk : k < n) (x : Int) :
    (∃ q, w.cell? ⟨zb, k, none⟩ = some q) ∧ w.frozen? ⟨zb, k, none⟩ = false ∧ SxM w0 f a cap fb hv (.slice (some ⟨zb, 0, none⟩) n zc) hs (zs.set k x) p (w.setCell ⟨zb, k, none⟩ (.int .i64 x)) := by
  obtain ⟨h1, h2, h3⟩ := M.rz.put hl hk x
  have hne : fb ≠ zb := fun e => by
    rcases M.n2 with h | h
    · cases h
    · exact h (by rw [e]; rfl)
  exact ⟨h1, h2, M.its, bl_set M.hb k (World.ownsRow.lt M.rz zb rfl).1 _, hp_set M.blk hne k _, putB_row M.rh M.n3, h3, M.lf, M.n1, M.n2, M.n3⟩
theorem putH (M : SxM w0 f a cap fb (.slice (some ⟨hb, 0, none⟩) n hc) zv hs zs p w) (hl : hs.length = n) {k : Nat} (hk : k < n) (x : Bool) :
    (∃ q, w.cell? ⟨hb, k, none⟩ = some q) ∧ w.frozen? ⟨hb, k, none⟩ = false ∧ SxM w0 f a cap fb (.slice (some ⟨hb, 0, none⟩) n hc) zv (hs.set k x) zs p (w.setCell ⟨hb, k, none⟩ (.bool x)) := by
  have hne : fb ≠ hb := fun e => by
    rcases M.n1 with h | h
    · cases h
    · exact h (by rw [e]; rfl)
  have hz : zv.ownBlock = none ∨ zv.ownBlock ≠ some hb := by
    rcases M.n3 with h | h
    · cases h
    · exact Or.inr fun e => h (by rw [e]; rfl)
  obtain ⟨a', c', e, hc'⟩ := M.rh.slice
  simp only [Value.slice.injEq] at e
  obtain ⟨g, eg, h1, h2⟩ := hc' k (by omega)
  have hg : g = hb := by
    have := e.1
    rw [eg] at this
    simp only [Option.some.injEq, Addr.mk.injEq, and_true] at this
    exact this.symm
  subst hg
  exact ⟨⟨_, h1⟩, h2, M.its, bl_set M.hb k (World.ownsRow.lt M.rh g rfl).1 _, hp_set M.blk hne k _, M.rh.put hl x, FxM.put_row M.rz hz, M.lf, M.n1, M.n2, M.n3⟩
end SxM
/-- What a pass leaves. -/
def PsOut (f : Fx) (hs : List Bool) (zs : List Int) (hs' : List Bool) (zs' : List Int) : Prop :=
  if f.fo hs zs = true then hs' = f.hN hs zs ∧ zs' = f.zN hs zs else hs' = (List.range f.xs.length).map (fun _ => true) ∧ zs' = f.zE hs zs
def nwZ (f : Fx) (hs : List Bool) (zs : List Int) (j : Nat) : Int := if f.fo hs zs = true then f.nz hs zs j else f.ez hs zs j
def nwH (f : Fx) (hs : List Bool) (zs : List Int) (j : Nat) : Bool := if f.fo hs zs = true then f.fz hs zs j else true
/-- What stands while the third loop works: k places are done. -/
def P3St (f : Fx) (hs : List Bool) (zs : List Int) (k : Nat) (hs' : List Bool) (zs' : List Int) : Prop :=
  hs'.length = f.xs.length ∧ zs'.length = f.xs.length ∧ ∀ j, j < f.xs.length → (j ∈ (plc hs f.xs.length).take k → hs'.getD j true = nwH f hs zs j ∧ zs'.getD j 0 = nwZ f hs zs j) ∧ (j ∉ (plc hs f.xs.length).take k → hs'.getD j true = hs.getD j true ∧ zs'.getD j 0 = zs.getD j 0)
theorem p3_end {f : Fx} {hs hs' : List Bool} {zs zs' : List Int} (hok : itsOk f.xs = true) (hst : f.St hs zs) {k : Nat} (hk : (plc hs f.xs.length).length ≤ k) (h : P3St f hs zs k hs' zs') : PsOut f hs zs hs' zs' := by
  obtain ⟨h1, h2, h3⟩ := h
  rw [List.take_of_length_le hk] at h3
  have hin : ∀ j, j < f.xs.length → (hs.getD j true = false → hs'.getD j true = nwH f hs zs j ∧ zs'.getD j 0 = nwZ f hs zs j) ∧ (hs.getD j true = true → hs'.getD j true = true ∧ zs'.getD j 0 = zs.getD j 0) := fun j hj =>
    ⟨fun hb => (h3 j hj).1 (plc_mem hj hb), fun hb => by
      have := (h3 j hj).2 (fun hm => by have := (plc_lt hm).2; rw [hb] at this; cases this)
      rw [hb] at this
      exact this⟩
  unfold PsOut
  unfold nwH nwZ at hin
  cases hf : f.fo hs zs with
  | true =>
    rw [hf] at hin
    rw [if_pos rfl]
    refine ⟨eq_range (d := true) h1 fun i hi => ?_, eq_range (d := 0) h2 fun i hi => ?_⟩
    · cases hb : hs.getD i true with
      | true => rw [((hin i hi).2 hb).1, Bool.true_or]
      | false => rw [((hin i hi).1 hb).1, Bool.false_or]; rfl
    · cases hb : hs.getD i true with
      | true =>
        rw [((hin i hi).2 hb).2]
        have := Fx.fz_held hok hst hi hb
        unfold Fx.fz at this
        rw [Bool.or_eq_false_iff] at this
        unfold Fx.nz
        rw [this.1, this.2]
        rfl
      | false => rw [((hin i hi).1 hb).2]; rfl
  | false =>
    rw [hf] at hin
    rw [if_neg (by decide)]
    refine ⟨eq_range (d := true) h1 fun i hi => ?_, eq_range (d := 0) h2 fun i hi => ?_⟩
    · cases hb : hs.getD i true with
      | true => exact ((hin i hi).2 hb).1
      | false => rw [((hin i hi).1 hb).1]; rfl
    · cases hb : hs.getD i true with
      | true => rw [((hin i hi).2 hb).2]; unfold Fx.ez; rw [if_pos hb]
      | false => rw [((hin i hi).1 hb).2]; rfl
theorem p3_step {f : Fx} {hs hs' : List Bool} {zs zs' : List Int} {k p : Nat} (h : P3St f hs zs k hs' zs') (hk : k < (plc hs f.xs.length).length) (hp : p < f.xs.length) (hf : hs.getD p true = false)
    (h4 : (plc hs f.xs.length).take k = plc hs p) (h5 : (plc hs f.xs.length).take (k + 1) = plc hs (p + 1)) {z : Int} (hz : z = nwZ f hs zs p) (ht : nwH f hs zs p = true) : P3St f hs zs (k + 1) (hs'.set p true) (zs'.set p z) := by
  obtain ⟨h1, h2, h3⟩ := h
  have h6 : plc hs (p + 1) = plc hs p ++ [p] := by show (if _ then _ else _) = _; rw [if_neg (by rw [hf]; decide)]
  refine ⟨by rw [List.length_set]; exact h1, by rw [List.length_set]; exact h2, fun j hj => ?_⟩
  rw [h5, h6, getD_set, getD_set]
  have h7 := h3 j hj
  rw [h4] at h7
  by_cases e : j = p
  · subst e
    refine ⟨fun _ => ?_, fun hn => absurd (by simp) hn⟩
    rw [if_pos ⟨rfl, by omega⟩, if_pos ⟨rfl, by omega⟩]
    exact ⟨ht.symm, hz⟩
  · rw [if_neg (fun h => e h.1), if_neg (fun h => e h.1)]
    refine ⟨fun hm => ?_, fun hn => h7.2 (fun hm => hn (List.mem_append_left _ hm))⟩
    rcases List.mem_append.1 hm with hm | hm
    · exact h7.1 hm
    · simp at hm; exact absurd hm e
theorem p3_same {f : Fx} {hs hs' : List Bool} {zs zs' : List Int} {k p : Nat} (h : P3St f hs zs k hs' zs') (hk : k < (plc hs f.xs.length).length) (hp : p < f.xs.length) (hf : hs.getD p true = false)
    (h4 : (plc hs f.xs.length).take k = plc hs p) (h5 : (plc hs f.xs.length).take (k + 1) = plc hs (p + 1)) (hz : nwZ f hs zs p = zs.getD p 0) (ht : nwH f hs zs p = false) : P3St f hs zs (k + 1) hs' zs' := by
  obtain ⟨h1, h2, h3⟩ := h
  have h6 : plc hs (p + 1) = plc hs p ++ [p] := by show (if _ then _ else _) = _; rw [if_neg (by rw [hf]; decide)]
  refine ⟨h1, h2, fun j hj => ?_⟩
  rw [h5, h6]
  have h7 := h3 j hj
  rw [h4] at h7
  by_cases e : j = p
  · subst e
    refine ⟨fun _ => ?_, fun hn => absurd (by simp) hn⟩
    have h8 := h7.2 (fun hm => by have := (plc_lt hm).1; omega)
    rw [ht, hz, h8.1, hf]
    exact ⟨rfl, h8.2⟩
  · refine ⟨fun hm => ?_, fun hn => h7.2 (fun hm => hn (List.mem_append_left _ hm))⟩
    rcases List.mem_append.1 hm with hm | hm
    · exact h7.1 hm
    · simp at hm; exact absurd hm e
theorem p3_start {f : Fx} {hs : List Bool} {zs : List Int} (hst : f.St hs zs) : P3St f hs zs 0 hs zs :=
  ⟨hst.1, hst.2.1, fun j hj => ⟨fun h => by simp at h, fun _ => ⟨rfl, rfl⟩⟩⟩

def P3Rel (w0 : World) (f : Fx) (a : Option Addr) (cap fb : Nat) (hv zv pv ov sv : Value) (B1 B2 B3 : Nat) (hs : List Bool) (zs : List Int) (p : Nat) (i : Value) (wr : World) : Prop :=
  ∃ (k : Nat) (hs' : List Bool) (zs' : List Int), k ≤ (plc hs f.xs.length).length ∧ i = .int .i64 k ∧ SxM w0 f a cap fb hv zv hs' zs' p wr ∧ RowI B1 pv (f.pI hs) wr ∧ RowI B2 ov (f.pV hs zs) wr ∧ RowI B3 sv (shrL (f.fr zs) (f.pW hs)) wr ∧ P3St f hs zs k hs' zs'
set_option maxHeartbeats 8000000 in
theorem pass3 (w0 : World) (f : Fx) (a : Option Addr) (cap fb : Nat) (hv zv pv ov sv : Value) (B1 B2 B3 : Nat) (hs : List Bool) (zs : List Int) (p : Nat) (w : World) (u3 u5 u6 u7 u11 u12 u13 u15 u16 u17 u18 u19 u20 u21 u22 u23 u24 u25 u26 u27 u28 u29 u30 u31 u32 u33 u34 u35 u36 u37 u38 u39 u40 u41 u42 u43 u44 u45 u46 u47 u48 u49 u50 u51 u52 u53 u54 u55 u56 u57 u58 u59 u60 u61 u62 u63 u64 u65 u66 u67 u68 u69 u70 u71 u72 u73 u74 u75 u76 u77 u78 u79 u80 u81 u82 u83 u84 u85 u86 u87 u88 u89 u90 u91 u92 u93 u94 u95 u96 u97 u98 u99 u100 u101 u102 u103 u104 u105 u106 u107 u108 u109 u110 u111 u112 u113 u114 u115 u116 u117 u118 u119 u120 u121 u122 u123 u124 u125 u126 u127 u128 u129 u130 u131 u132 u133 u134 u135 u136 u137 u138 u139 u140 u141 u142 u143 u144 u145 u146 u147 u148 u149 u150 u151 u152 u153 u154 u155 u156 u157 u158 u159 u160 u161 u162 u163 u164 u165 u166 u167 u168 u169 u170 u171 u172 u173 u174 u175 u176 u177 u178 u179 u180 u181 u182 u183 u184 u185 u186 u187 u188 u189 u190 u191 u192 u193 u194 u195 u196 u197 u198 u199 u200 u201 u202 u203 u204 u205 u206 u207 u208 u209 u210 u211 u212 u213 u214 u215 u216 u217 u218 u219 u220 u221 u222 u223 u224 u225 u226 u227 u228 u229 u230 u231 u232 u233 u234 u235 u236 u237 u238 u239 u240 u241 u242 u243 u244 u245 : Value) (T : Int) (F : Bool)
    (hok : itsOk f.xs = true) (hst : f.St hs zs) (eT : T = f.to hs zs) (eF : F = f.fo hs zs)
    (M : SxM w0 f a cap fb hv zv hs zs p w) (RP : RowI B1 pv (f.pI hs) w) (RO : RowI B2 ov (f.pV hs zs) w) (RS : RowI B3 sv (shrL (f.fr zs) (f.pW hs)) w)
    (np1 : pv.ownBlock = none ∨ pv.ownBlock ≠ hv.ownBlock) (np2 : pv.ownBlock = none ∨ pv.ownBlock ≠ zv.ownBlock) (no1 : ov.ownBlock = none ∨ ov.ownBlock ≠ hv.ownBlock) (no2 : ov.ownBlock = none ∨ ov.ownBlock ≠ zv.ownBlock) (ns1 : sv.ownBlock = none ∨ sv.ownBlock ≠ hv.ownBlock) (ns2 : sv.ownBlock = none ∨ sv.ownBlock ≠ zv.ownBlock) :
    Go.Code.wp Try.prog (restC 13 (Try.f101.body.getD .skip)) (bodyPost Try.prog Try.f101 (fun e w' => e = .returned (.bool true) ∧ ∃ hs' zs', SxM w0 f a cap fb hv zv hs' zs' p w' ∧ PsOut f hs zs hs' zs')) { tmps := #[.pointer (some ⟨fb, 0, none⟩), undef, .bool false, u3, pv, u5, u6, u7, ov, .int .i64 T, .bool F, u11, u12, u13, sv, u15, u16, u17, u18, u19, u20, u21, u22, u23, u24, u25, u26, u27, u28, u29, u30, u31, u32, u33, u34, u35, u36, u37, u38, u39, u40, u41, u42, u43, u44, u45, u46, u47, u48, u49, u50, u51, u52, u53, u54, u55, u56, u57, u58, u59, u60, u61, u62, u63, u64, u65, u66, u67, u68, u69, u70, u71, u72, u73, u74, u75, u76, u77, u78, u79, u80, u81, u82, u83, u84, u85, u86, u87, u88, u89, u90, u91, u92, u93, u94, u95, u96, u97, u98, u99, u100, u101, u102, u103, u104, u105, u106, u107, u108, u109, u110, u111, u112, u113, u114, u115, u116, u117, u118, u119, u120, u121, u122, u123, u124, u125, u126, u127, u128, u129, u130, u131, u132, u133, u134, u135, u136, u137, u138, u139, u140, u141, u142, u143, u144, u145, u146, u147, u148, u149, u150, u151, u152, u153, u154, u155, u156, u157, u158, u159, u160, u161, u162, u163, u164, u165, u166, u167, u168, u169, u170, u171, u172, u173, u174, u175, u176, u177, u178, u179, u180, u181, u182, u183, u184, u185, u186, u187, u188, u189, u190, u191, u192, u193, u194, u195, u196, u197, u198, u199, u200, u201, u202, u203, u204, u205, u206, u207, u208, u209, u210, u211, u212, u213, u214, u215, u216, u217, u218, u219, u220, u221, u222, u223, u224, u225, u226, u227, u228, u229, u230, u231, u232, u233, u234, u235, u236, u237, u238, u239, u240, u241, u242, u243, u244, u245], defers := [] } w := by
  have h12 := Fx.n12 hok
  have hml := plc_len (hs := hs) f.xs.length
  have HST := Lib.hid hst
  have HP0 := Lib.hid (p3_start hst)
  have hpl : (f.pI hs).length = (plc hs f.xs.length).length := by simp [Fx.pI]
  have hol : (f.pV hs zs).length = (plc hs f.xs.length).length := by simp [Fx.pV]
  have hsl : (shrL (f.fr zs) (f.pW hs)).length = (plc hs f.xs.length).length := by rw [shrL_len (Fx.pW_wok hok)]; simp [Fx.pW]
  obtain ⟨m, em⟩ : ∃ q, q = (plc hs f.xs.length).length := ⟨_, rfl⟩
  rw [← em] at hpl hol hsl hml
  obtain ⟨pa, pc, rfl, _⟩ := RP.slice (Fx.pI_all hok)
  rw [hpl] at RP np1 np2 ⊢
  have HM := Lib.hid M
  have HRP := Lib.hid RP
  have HRO := Lib.hid RO
  have HRS := Lib.hid RS
  have ET := Lib.hid eT
  have EF := Lib.hid eF
  have EM := Lib.hid em
  have HPL := Lib.hid hpl
  have HOL := Lib.hid hol
  have HSL := Lib.hid hsl
  have NP1 := Lib.hid np1
  have NP2 := Lib.hid np2
  have NO1 := Lib.hid no1
  have NO2 := Lib.hid no2
  have NS1 := Lib.hid ns1
  have NS2 := Lib.hid ns2
  clear M RP RO RS eT eF em hpl hol hsl np1 np2 no1 no2 ns1 ns2 hst
  refine wp_restC rfl ?_
  simp only [restC, sndC]
  go_wp2
  go_loopw [15] (P3Rel w0 f a cap fb hv zv (.slice pa m pc) ov sv B1 B2 B3 hs zs p) (fun i _ => m - (intOf i).toNat)
  case atStart => exact ⟨0, hs, zs, Nat.zero_le _, rfl, HM.out, HRP.out, HRO.out, HRS.out, HP0.out⟩
  case round =>
    clear HM HRP HRO HRS HP0
    obtain ⟨k, hs', zs', hk, rfl, M, RP, RO, RS, h3⟩ := hrel
    rw [← EM.out] at hk
    have HMM := Lib.hid M
    have HRP := Lib.hid RP
    have HRO := Lib.hid RO
    have HRS := Lib.hid RS
    have H3 := Lib.hid h3
    by_cases hlt : k < m
    · have hlo : (0 : Int) ≤ (k : Int) := Int.natCast_nonneg _
      have hhi : (k : Int) < (m : Int) := by omega
      obtain ⟨pk, hp1, hpn, hpf, hp4, hp5⟩ := plc_at (hs := hs) (n := f.xs.length) (i := k) (by rw [← EM.out]; exact hlt)
      have hplo : (0 : Int) ≤ (pk : Int) := Int.natCast_nonneg _
      have hphi : (pk : Int) < (f.xs.length : Int) := by omega
      obtain ⟨hmm, hPI⟩ := RP.intsOf (Fx.pI_all hok)
      clear hmm
      obtain ⟨pb, po, rfl, hpbl, hck⟩ := hPI.look hlt
      rw [show (f.pI hs).getD k 0 = (pk : Int) by unfold Fx.pI; rw [← hp1]; simp [List.getD, show k < (plc hs f.xs.length).length by rw [← EM.out]; exact hlt]] at hck
      have hlh : hs'.length = f.xs.length := h3.1
      have hlz : zs'.length = f.xs.length := h3.2.1
      obtain ⟨ha', hc, ehv, hhk⟩ := M.rh.slice
      obtain ⟨hb, eha, _, _⟩ := hhk pk (by omega)
      subst eha
      rw [hlh] at ehv
      subst ehv
      obtain ⟨zb, zc, ezv⟩ : ∃ zb zc, zv = .slice (some ⟨zb, 0, none⟩) f.xs.length zc := by
        rcases M.rz.2 with ⟨_, e2⟩ | ⟨g, c, cur, e1, _⟩
        · rw [hlz] at e2; omega
        · exact ⟨g, c, by rw [e1, hlz]⟩
      subst ezv
      have H5 := Lib.hid (fun (z : Int) (h1 : z = nwZ f hs zs pk) (h2 : nwH f hs zs pk = true) => p3_step H3.out (by rw [← EM.out]; exact hlt) hpn hpf hp4 hp5 h1 h2)
      have H6 := Lib.hid (fun (h1 : nwZ f hs zs pk = zs.getD pk 0) (h2 : nwH f hs zs pk = false) => p3_same H3.out (by rw [← EM.out]; exact hlt) hpn hpf hp4 hp5 h1 h2)
      obtain ⟨c0, c1, c2, c3, c4, c5, c6⟩ := M.cells
      obtain ⟨b, off, rfl, hbl, hrg⟩ := M.itsN.look hpn
      have hx : f.x pk = itD f.xs pk := rfl
      rw [← hx] at hrg
      have hzk : zs.getD pk 0 = (f.x pk).base := ((HST.out.2.2 pk hpn).2.2 hpf).1
      have hzi := (HST.out.2.2 pk hpn).1
      have hshp : (shrL (f.fr zs) (f.pW hs)).getD k 0 = (shrL (f.fr zs) (f.wL hs)).getD pk 0 := Fx.sh_plc hok (by rw [← EM.out]; exact hlt) hpn hp4 hp5
      have hshi := Fx.sh_in (hs := hs) (zs := zs) hok hpn
      have hez : f.ez hs zs pk = clI (zs.getD pk 0 + (shrL (f.fr zs) (f.wL hs)).getD pk 0) := by unfold Fx.ez; rw [if_neg (by rw [hpf]; decide)]
      obtain ⟨sa, sc, rfl, hSI⟩ := RS.slice (shrL_all _ _)
      obtain ⟨sb, so, esa, hsbl, hsk⟩ := hSI.look (show k < (shrL (f.fr zs) (f.pW hs)).length by rw [HSL.out]; exact hlt)
      subst esa
      rw [hshp] at hsk
      obtain ⟨sh, esh⟩ : ∃ q, q = (shrL (f.fr zs) (f.wL hs)).getD pk 0 := ⟨_, rfl⟩
      obtain ⟨x, ex⟩ : ∃ q, q = f.x pk := ⟨_, rfl⟩
      rw [← esh] at hsk hshi hez
      rw [hzk] at hzi hez
      rw [← ex] at hrg hzi hez
      obtain ⟨oa, oc, rfl, hOI⟩ := RO.slice (allI_D (n := m) HOL.out fun i hi => by
        have hi' : i < (plc hs f.xs.length).length := by rw [← EM.out]; exact hi
        rw [show (f.pV hs zs).getD i 0 = f.vi hs zs ((plc hs f.xs.length).getD i 0) by unfold Fx.pV; simp [List.getD, hi']]
        obtain ⟨q, hq1, hq2, _⟩ := plc_at hi'
        rw [hq1]
        have := Fx.vi_in hok HST.out hq2
        omega)
      obtain ⟨ob, oo, eoa, hobl, hok1⟩ := hOI.look (show k < (f.pV hs zs).length by rw [HOL.out]; exact hlt)
      subst eoa
      rw [show (f.pV hs zs).getD k 0 = f.vi hs zs pk by unfold Fx.pV; rw [← hp1]; simp [List.getD, show k < (plc hs f.xs.length).length by rw [← EM.out]; exact hlt]] at hok1
      obtain ⟨vk, evk⟩ : ∃ q, q = f.vi hs zs pk := ⟨_, rfl⟩
      rw [← evk] at hok1
      have hlok : f.lo hs zs pk = (decide (0 < vk) && decide (0 ≤ T)) := by rw [evk, ET.out]; rfl
      have hhik : f.hi hs zs pk = (decide (vk < 0) && decide (T ≤ 0)) := by rw [evk, ET.out]; rfl
      have hnz : f.nz hs zs pk = if f.lo hs zs pk = true then x.least else if f.hi hs zs pk = true then mmV x else zs.getD pk 0 := by rw [ex]; rfl
      have hfz : f.fz hs zs pk = (f.lo hs zs pk || f.hi hs zs pk) := rfl
      have LOK := Lib.hid hlok
      have HIK := Lib.hid hhik
      have HNZ := Lib.hid hnz
      have HFZ := Lib.hid hfz
      have HVN := Lib.hid (show vk ≠ 0 ∧ vk < 0 → 0 ≤ x.most from fun h => by
        apply Decidable.byContradiction
        intro hm
        have hA := Fx.al_pos hok HST.out hpn hpf
        have := Fx.vi_over (hs := hs) (zs := zs) hok hA hpn
        rw [← evk, ← ex] at this
        (repeat' split at this) <;> omega)
      have hho : (k : Int) < ((f.pV hs zs).length : Int) := by rw [HOL.out]; exact hhi
      have hhs : (k : Int) < ((shrL (f.fr zs) (f.pW hs)).length : Int) := by rw [HSL.out]; exact hhi
      have HRG := Lib.hid hrg
      obtain ⟨d0, d1, d2, d3, d4, d5, d6, d7, d8⟩ := rg_it hrg
      have HEZ := Lib.hid hez
      clear M RP RO RS h3 hPI hhk hSI hOI hshp esh ex evk hlok hhik hnz hfz hp1 hx hrg hez c1 c2 c3 c6 hzk hp4 hp5
      cases F with
      | false =>
        have hff : f.fo hs zs = false := EF.out.symm
        have hw : IntKind.i64.wrap (x.base + sh) = x.base + sh := IntWalk.i64_in _ (by omega)
        obtain ⟨ck, eck⟩ : ∃ q, q = clI (x.base + sh) := ⟨_, rfl⟩
        have HX := Lib.hid (show ck = nwZ f hs zs pk by unfold nwZ; rw [hff, if_neg (by decide), HEZ.out, eck])
        have HT := Lib.hid (show nwH f hs zs pk = true by unfold nwH; rw [hff]; rfl)
        have kc := fun (W : World) => (sclamped (x.base + sh) W).mono (fun e w' (h : e = .returned (.int .i64 (clI (x.base + sh))) ∧ w' = W) => (⟨h.1, by rw [h.2]; exact Below.refl _ _⟩ : e = .returned (.int .i64 (clI (x.base + sh))) ∧ Below W.heap.size W w'))
        rw [← eck] at kc
        have r5 := fun d os => cell_regrown c5 d os
        have r0 := fun d os => cell_regrown c0 d os
        have q0 := fun d os => cell_regrown d0 d os
        have qs := fun d os => cell_regrown hsk d os
        clear hff eck d0 d1 d2 d3 d4 d5 d6 d7 d8 hok1 c4
        go_wp2
        refine region_qtail 20 (by kernel_rfl) (by kernel_rfl) ?_
        simp only [blank, nopOf, Nat.reduceAdd, Nat.reduceEqDiff, Nat.reduceLeDiff, or_self, or_true, false_or, or_false, true_or, ↓reduceIte]
        repeat (go_big_quiet_step (first
          | (go_at_call 107; exact Calls.regrown_of (kc _))
          | fail))
        refine wpQuiet_nil ?_
        intro w2 hw'
        have b2 := below_of hw'
        clear hw'
        simp only [List.drop_succ_cons, List.drop_zero]
        clear r5 r0 q0 qs kc hw hsk c0 c5 hck
        have M2 := HMM.out.below b2
        have P2 := HRP.out.below b2
        have O2 := HRO.out.below b2
        have S2 := HRS.out.below b2
        obtain ⟨⟨q1, g1⟩, g2, M3⟩ := M2.putZ hlz hpn (ck)
        obtain ⟨u3, eu3⟩ : ∃ q, q = w2.setCell ⟨zb, pk, none⟩ (.int .i64 (ck)) := ⟨_, rfl⟩
        rw [← eu3] at M3
        have P3 : RowI _ _ (f.pI hs) u3 := eu3 ▸ FxM.put_row P2 NP2.out
        have O3 : RowI _ _ (f.pV hs zs) u3 := eu3 ▸ FxM.put_row O2 NO2.out
        have S3 : RowI _ _ (shrL (f.fr zs) (f.pW hs)) u3 := eu3 ▸ FxM.put_row S2 NS2.out
        obtain ⟨⟨q2, g3⟩, g4, M4⟩ := M3.putH hlh hpn true
        have d4 := M3.cells.2.2.2.2.1
        have HM4 := Lib.hid M4
        have P4 := Lib.hid (FxM.put_row (j := pk) (u := .bool true) P3 NP1.out)
        have O4 := Lib.hid (FxM.put_row (j := pk) (u := .bool true) O3 NO1.out)
        have S4 := Lib.hid (FxM.put_row (j := pk) (u := .bool true) S3 NS1.out)
        have EU3 := Lib.hid eu3
        have HLH := Lib.hid hlh
        have HLZ := Lib.hid hlz
        clear M2 P2 O2 S2 M3 P3 O3 S3 M4 eu3 b2 hlh hlz
        go_wp2_with (rw [← EU3.out])
        go_roundw
        case rel => exact ⟨k + 1, _, _, by rw [← EM.out]; omega, by go_num, HM4.out, P4.out, O4.out, S4.out, H5.out _ HX.out HT.out⟩
        case measure => simp [intOf]; omega
      | true =>
        have hff : f.fo hs zs = true := EF.out.symm
        have hnwz : nwZ f hs zs pk = f.nz hs zs pk := by unfold nwZ; rw [hff]; rfl
        have hnwh : nwH f hs zs pk = f.fz hs zs pk := by unfold nwH; rw [hff]; rfl
        have HNW := Lib.hid hnwz
        have HNH := Lib.hid hnwh
        clear hff hnwz hnwh hsk
        by_cases a1 : 0 < vk ∧ 0 ≤ T
        · obtain ⟨a1, a2⟩ := a1
          have hl : f.lo hs zs pk = true := by rw [LOK.out, decide_eq_true a1, decide_eq_true a2]; rfl
          have HX := Lib.hid (show x.least = nwZ f hs zs pk by rw [HNW.out, HNZ.out, if_pos hl])
          have HT := Lib.hid (show nwH f hs zs pk = true by rw [HNH.out, HFZ.out, hl]; rfl)
          have r5 := fun d os => cell_regrown c5 d os
          have r0 := fun d os => cell_regrown c0 d os
          have q1 := fun d os => cell_regrown d1 d os
          clear hl d0 d1 d2 d3 d4 d5 d6 d7 d8 c4
          go_wp2
          refine region_qtail 14 (by kernel_rfl) (by kernel_rfl) ?_
          simp only [blank, nopOf, Nat.reduceAdd, Nat.reduceEqDiff, Nat.reduceLeDiff, or_self, or_true, false_or, or_false, true_or, ↓reduceIte]
          repeat (go_big_quiet_step (fail))
          refine wpQuiet_nil ?_
          intro w2 hw'
          have b2 := below_of hw'
          clear hw'
          simp only [List.drop_succ_cons, List.drop_zero]
          clear r5 r0 q1 hok1 c0 c5 hck
          have M2 := HMM.out.below b2
          have P2 := HRP.out.below b2
          have O2 := HRO.out.below b2
          have S2 := HRS.out.below b2
          obtain ⟨⟨q1, g1⟩, g2, M3⟩ := M2.putZ hlz hpn (x.least)
          obtain ⟨u3, eu3⟩ : ∃ q, q = w2.setCell ⟨zb, pk, none⟩ (.int .i64 (x.least)) := ⟨_, rfl⟩
          rw [← eu3] at M3
          have P3 : RowI _ _ (f.pI hs) u3 := eu3 ▸ FxM.put_row P2 NP2.out
          have O3 : RowI _ _ (f.pV hs zs) u3 := eu3 ▸ FxM.put_row O2 NO2.out
          have S3 : RowI _ _ (shrL (f.fr zs) (f.pW hs)) u3 := eu3 ▸ FxM.put_row S2 NS2.out
          obtain ⟨⟨q2, g3⟩, g4, M4⟩ := M3.putH hlh hpn true
          have d4 := M3.cells.2.2.2.2.1
          have HM4 := Lib.hid M4
          have P4 := Lib.hid (FxM.put_row (j := pk) (u := .bool true) P3 NP1.out)
          have O4 := Lib.hid (FxM.put_row (j := pk) (u := .bool true) O3 NO1.out)
          have S4 := Lib.hid (FxM.put_row (j := pk) (u := .bool true) S3 NS1.out)
          have EU3 := Lib.hid eu3
          have HLH := Lib.hid hlh
          have HLZ := Lib.hid hlz
          clear M2 P2 O2 S2 M3 P3 O3 S3 M4 eu3 b2 hlh hlz
          go_wp2_with (rw [← EU3.out])
          go_roundw
          case rel => exact ⟨k + 1, _, _, by rw [← EM.out]; omega, by go_num, HM4.out, P4.out, O4.out, S4.out, H5.out _ HX.out HT.out⟩
          case measure => simp [intOf]; omega
        · by_cases a2 : vk < 0 ∧ T ≤ 0
          · obtain ⟨a2, a3⟩ := a2
            have a4 : ¬ 0 < vk := by omega
            have hl : f.lo hs zs pk = false := by rw [LOK.out, decide_eq_false a4]; rfl
            have hh : f.hi hs zs pk = true := by rw [HIK.out, decide_eq_true a2, decide_eq_true a3]; rfl
            have HX := Lib.hid (show moV x = nwZ f hs zs pk by rw [HNW.out, HNZ.out, hl, if_neg (by simp), if_pos hh]; exact moV_mm (HVN.out ⟨by omega, a2⟩))
            have HT := Lib.hid (show nwH f hs zs pk = true by rw [HNH.out, HFZ.out, hl, hh]; rfl)
            have kc := fun (W : World) => smost x W
            obtain ⟨ck, eck⟩ : ∃ q, q = moV x := ⟨_, rfl⟩
            rw [← eck] at kc HX
            have r5 := fun d os => cell_regrown c5 d os
            have r0 := fun d os => cell_regrown c0 d os
            have q0 := fun d os => cell_regrown d0 d os
            have q1 := fun d os => cell_regrown d1 d os
            have q2 := fun d os => cell_regrown d2 d os
            have q3 := fun d os => cell_regrown d3 d os
            have q4 := fun d os => cell_regrown d4 d os
            have q5 := fun d os => cell_regrown d5 d os
            have q6 := fun d os => cell_regrown d6 d os
            have q7 := fun d os => cell_regrown d7 d os
            have q8 := fun d os => cell_regrown d8 d os
            clear hl hh eck d0 d1 d2 d3 d4 d5 d6 d7 d8 c4
            go_wp2
            refine region_qtail 14 (by kernel_rfl) (by kernel_rfl) ?_
            simp only [blank, nopOf, Nat.reduceAdd, Nat.reduceEqDiff, Nat.reduceLeDiff, or_self, or_true, false_or, or_false, true_or, ↓reduceIte]
            repeat (go_big_quiet_step (first
              | (go_at_call 106; exact Calls.regrown_of (kc _))
              | fail))
            refine wpQuiet_nil ?_
            intro w2 hw'
            have b2 := below_of hw'
            clear hw'
            simp only [List.drop_succ_cons, List.drop_zero]
            clear r5 r0 q0 q1 q2 q3 q4 q5 q6 q7 q8 hok1 c0 c5 hck kc
            have M2 := HMM.out.below b2
            have P2 := HRP.out.below b2
            have O2 := HRO.out.below b2
            have S2 := HRS.out.below b2
            obtain ⟨⟨q1, g1⟩, g2, M3⟩ := M2.putZ hlz hpn (ck)
            obtain ⟨u3, eu3⟩ : ∃ q, q = w2.setCell ⟨zb, pk, none⟩ (.int .i64 (ck)) := ⟨_, rfl⟩
            rw [← eu3] at M3
            have P3 : RowI _ _ (f.pI hs) u3 := eu3 ▸ FxM.put_row P2 NP2.out
            have O3 : RowI _ _ (f.pV hs zs) u3 := eu3 ▸ FxM.put_row O2 NO2.out
            have S3 : RowI _ _ (shrL (f.fr zs) (f.pW hs)) u3 := eu3 ▸ FxM.put_row S2 NS2.out
            obtain ⟨⟨q2, g3⟩, g4, M4⟩ := M3.putH hlh hpn true
            have d4 := M3.cells.2.2.2.2.1
            have HM4 := Lib.hid M4
            have P4 := Lib.hid (FxM.put_row (j := pk) (u := .bool true) P3 NP1.out)
            have O4 := Lib.hid (FxM.put_row (j := pk) (u := .bool true) O3 NO1.out)
            have S4 := Lib.hid (FxM.put_row (j := pk) (u := .bool true) S3 NS1.out)
            have EU3 := Lib.hid eu3
            have HLH := Lib.hid hlh
            have HLZ := Lib.hid hlz
            clear M2 P2 O2 S2 M3 P3 O3 S3 M4 eu3 b2 hlh hlz
            go_wp2_with (rw [← EU3.out])
            go_roundw
            case rel => exact ⟨k + 1, _, _, by rw [← EM.out]; omega, by go_num, HM4.out, P4.out, O4.out, S4.out, H5.out _ HX.out HT.out⟩
            case measure => simp [intOf]; omega
          · have hl : f.lo hs zs pk = false := by rw [LOK.out, ← Bool.decide_and]; exact decide_eq_false a1
            have hh : f.hi hs zs pk = false := by rw [HIK.out, ← Bool.decide_and]; exact decide_eq_false a2
            have HSM := Lib.hid (H6.out (by rw [HNW.out, HNZ.out, hl, hh]; rfl) (by rw [HNH.out, HFZ.out, hl, hh]; rfl))
            clear hl hh d0 d1 d2 d3 d4 d5 d6 d7 d8 c4 c0 c5
            by_cases b1 : 0 < vk
            · have b2 : ¬ 0 ≤ T := fun h => a1 ⟨b1, h⟩
              have b3 : ¬ vk < 0 := by omega
              go_wp2
              go_roundw
              case rel => exact ⟨k + 1, _, _, by rw [← EM.out]; omega, by go_num, HMM.out, HRP.out, HRO.out, HRS.out, HSM.out⟩
              case measure => simp [intOf]; omega
            · by_cases b2 : vk < 0
              · have b3 : ¬ T ≤ 0 := fun h => a2 ⟨b2, h⟩
                go_wp2
                go_roundw
                case rel => exact ⟨k + 1, _, _, by rw [← EM.out]; omega, by go_num, HMM.out, HRP.out, HRO.out, HRS.out, HSM.out⟩
                case measure => simp [intOf]; omega
              · go_wp2
                go_roundw
                case rel => exact ⟨k + 1, _, _, by rw [← EM.out]; omega, by go_num, HMM.out, HRP.out, HRO.out, HRS.out, HSM.out⟩
                case measure => simp [intOf]; omega
    · obtain rfl : k = m := by omega
      have HF := Lib.hid (p3_end hok HST.out (by rw [← EM.out]; exact Nat.le_refl _) h3)
      clear M RP RO RS h3
      go_wp2
      go_ret
      exact ⟨rfl, hs', zs', HMM.out, HF.out⟩
end Go.Proofs.Ytnncdpkmhpjmbaa
end
