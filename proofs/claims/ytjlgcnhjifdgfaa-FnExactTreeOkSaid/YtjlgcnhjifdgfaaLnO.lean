/-
  The contract of impl.linkedOf: a block a node, connected. Conditions: no list of more than 1048576.
-/
import Derived.Test.YtjlgcnhjifdgfaaLnk
namespace Go.Proofs.Ytjlgcnhjifdgfaa
open Go.ChangeShapes Go.WideShapes Go.ChangeAt Go.RowKit
set_option linter.unusedVariables false
set_option linter.unusedSimpArgs false
set_option maxRecDepth 8000

/-- 'make', the world behind it written out. -/
theorem list_make_all {P : Program} (w : World) {ops : Array Oper} {rest : List Oper} {o : Oper} {a : Act} {Q : Exit → Act → World → Prop}
    (hg : o.guard = none) (l c : Operand) (t : TypeId) (hop : o.op = Op.makeSlice t l c) (e : TypeId) (i : TypeInfo) (z : Value) (h1 : P.underlying t = some (.slice e)) (h2 : P.info? e = some i) (h3 : i.zero = some z)
    (kl kc : IntKind) (L C : Int) (n : Nat) (hl : a.eval l = .int kl L) (hc : a.eval c = .int kc C) (hL : L = (n : Int)) (hC : C = (n : Int)) (b2 : i.bytes * n ≤ 281474976710656) (b3 : n ≤ maxLen)
    (hK : wpList P ops Q rest (a.put o.dst (.slice (some ⟨w.heap.size, 0, none⟩) n n)) (w.alloc (.cells (madeCells z.cells (n * i.size)) e))) : wpList P ops Q (o :: rest) a w := by
  refine wpList_plain hg fun K hK' => ?_
  have h63' : (n : Int) ≤ 9223372036854775807 := by
    have h := b3
    simp [maxLen] at h
    omega
  have hb' : (i.bytes : Int) * (n : Int) ≤ 281474976710656 := by
    have h : ((i.bytes * n : Nat) : Int) ≤ 281474976710656 := by omega
    rwa [Int.natCast_mul] at h
  have hr := run_make (P := P) w t e i z h1 h2 h3 kl kc n n (by omega) (Int.le_refl _) hb' h63'
  simp only [Int.toNat_natCast] at hr
  subst hL
  subst hC
  unfold Oper.wp
  simp [execOp, hop, hl, hc, hr, Result.andThen]
  exact hK' _ _ hK
/-- The row, k of n in. -/
def pL (G k n : Nat) : List Value := (List.range k).map (fun j => Value.pointer (some ⟨G + 1 + j, 0, none⟩)) ++ List.replicate (n - k) (.pointer none)
theorem pL_len {G k n : Nat} (h : k ≤ n) : (pL G k n).length = n := by simp [pL]; omega
theorem pL_set {G k n : Nat} (h : k < n) : (pL G k n).set k (.pointer (some ⟨G + 1 + k, 0, none⟩)) = pL G (k + 1) n := by
  unfold pL
  rw [List.set_append_right _ _ (by simp), List.length_map, List.length_range, Nat.sub_self, List.range_succ, List.map_append, List.append_assoc]
  congr 1
  obtain ⟨q, hq⟩ : ∃ q, n - k = q + 1 := ⟨n - k - 1, by omega⟩
  rw [hq, show n - (k + 1) = q by omega, List.replicate_succ]
  rfl
theorem pL_at {G n j : Nat} (h : j < n) : (pL G n n)[j]? = some (.pointer (some ⟨G + 1 + j, 0, none⟩)) := by
  unfold pL
  rw [List.getElem?_append_left (by simpa using h)]
  simp [h]
/-- What is known of a linked node that is not connected. -/
def raw (b off j : Nat) : Obj := .cells (lkA (j + 1) (.pointer (some ⟨b, off + j * 64, none⟩)) (.pointer none) (.slice none 0 0)) 111
/-- The linked nodes. -/
def Linked (w : World) (G b off : Nat) (ls : List (Int × List Int)) : Prop :=
  AllP w G ls.length ∧ G + ls.length < w.heap.size ∧ ∃ ups kvs : Nat → Value,
    (∀ (i : Nat) (l : Int × List Int), ls[i]? = some l → w.heap[G + 1 + i]? = some (.cells (lkA (i + 1) (.pointer (some ⟨b, off + i * 64, none⟩)) (ups i) (kvs i)) 111) ∧ UpP w G ls.length l.1 (ups i) ∧ KidsP w G ls.length (G + ls.length + 1) (kvs i) l.2) ∧
    (∀ (i j x : Nat), i < ls.length → j < ls.length → (kvs i).ownBlock = some x → (kvs j).ownBlock = some x → i = j)
theorem Linked.below {w w' : World} {G b off : Nat} {ls : List (Int × List Int)} (h : Linked w G b off ls) (hb : Below w.heap.size w w') : Linked w' G b off ls := by
  obtain ⟨h1, h2, ups, kvs, h3, h4⟩ := h
  refine ⟨h1.below (by omega) hb, Nat.lt_of_lt_of_le h2 hb.size, ups, kvs, fun i l hl => ?_, h4⟩
  obtain ⟨a, b, c⟩ := h3 i l hl
  exact ⟨hp_below a hb, b.below hb, c.below hb⟩
def linksOf (ns : List PN) : List (Int × List Int) := ns.map fun n => (n.up, n.kids)
def LoRel (G b off n : Nat) (u : World) (iv : Value) (wr : World) : Prop :=
  ∃ k : Nat, k ≤ n ∧ iv = .int .i64 k ∧ wr.heap.size = G + 1 + k ∧ wr.ownsRow G 100 1 (.slice (some ⟨G, 0, none⟩) n n) n (pL G k n) ∧ (∀ j, j < k → wr.heap[G + 1 + j]? = some (raw b off j)) ∧ Below G u wr
def LcRel (G b off : Nat) (ns : List PN) (u : World) (iv : Value) (wr : World) : Prop :=
  ∃ (k : Nat) (ups kvs : Nat → Value), k ≤ ns.length ∧ iv = .int .i64 k ∧ AllP wr G ns.length ∧ G + ns.length < wr.heap.size ∧
    (∀ (i : Nat) (n : PN), i < k → ns[i]? = some n → wr.heap[G + 1 + i]? = some (.cells (lkA (i + 1) (.pointer (some ⟨b, off + i * 64, none⟩)) (ups i) (kvs i)) 111) ∧ UpP wr G ns.length n.up (ups i) ∧ KidsP wr G ns.length (G + ns.length + 1) (kvs i) n.kids) ∧
    (∀ j, k ≤ j → j < ns.length → wr.heap[G + 1 + j]? = some (raw b off j)) ∧
    (∀ (i j x : Nat), i < k → j < k → (kvs i).ownBlock = some x → (kvs j).ownBlock = some x → i = j) ∧ Below G u wr
/-- What linkedOf leaves. -/
def LnPost (b off : Nat) (ns : List PN) (w : World) (e : Ending) (w' : World) : Prop :=
  e = .returned (.slice (some ⟨w.heap.size + 1, 0, none⟩) ns.length ns.length) ∧ Linked w' (w.heap.size + 1) b off (linksOf ns) ∧ Below w.heap.size w w'
set_option maxHeartbeats 4000000 in
theorem ilinkedof (a : Option Addr) (cap b off : Nat) (ns : List PN) (w : World) (hz : Nds w a ns) (hl : szS ns ≤ 1048576) (ha : ns = [] ∨ a = some ⟨b, off, none⟩) :
    Calls Try.prog 55 #[.agg #[.slice a ns.length cap]] w (LnPost b off ns w) := by
  obtain ⟨i0, hi0, hz0, hz1, hz2⟩ := info_parts info_ptr
  have hnl : ns.length ≤ 1048576 := by unfold szS at hl; omega
  have HL := Lib.hid hl
  obtain ⟨u, eu⟩ : ∃ u, u = w.alloc (.cells #[.slice a ns.length cap] 26) := ⟨_, rfl⟩
  obtain ⟨G, eG⟩ : ∃ G, G = w.heap.size + 1 := ⟨_, rfl⟩
  have su : u.heap.size = G := by rw [eu, eG]; simp
  obtain ⟨v, ev⟩ : ∃ v, v = u.alloc (.cells (madeCells (Value.pointer none).cells (ns.length * i0.size)) 100) := ⟨_, rfl⟩
  have sv : v.heap.size = G + 1 := by rw [ev]; simp [su]
  have hT := hp_new w (.cells #[.slice a ns.length cap] 26)
  have hBu : Below w.heap.size w u := by rw [eu]; exact bel_alloc _ _
  have hBv : Below G u v := by rw [← su, ev]; exact bel_alloc _ _
  have hrow : v.ownsRow G 100 1 (.slice (some ⟨G, 0, none⟩) ns.length ns.length) ns.length (pL G 0 ns.length) := by
    have h := World.ownsRow_lit (size := 1) (e := 100) u (madeCells (Value.pointer none).cells (ns.length * i0.size)) ns.length (base := G) (by omega) (by unfold maxLen; omega) (by rw [size_madeCells, hz1])
    rw [← ev, su, hz1, show (Value.pointer none).cells = #[Value.pointer none] from rfl, toList_madeCells_one, Nat.mul_one] at h
    simpa [pL] using h
  rw [← eu] at hT
  have hzu := hz.below hBu
  have HTU := Lib.hid hT
  have HZ := Lib.hid hzu
  have EU := Lib.hid eu
  have EV := Lib.hid ev
  have EG := Lib.hid eG
  have HA := Lib.hid ha
  have HROW := Lib.hid hrow
  have c0 : u.cell? ⟨w.heap.size, 0, none⟩ = some (.slice a ns.length cap) := (Go.Joins.cell_of_block hT 0).trans rfl
  have cv : v.cell? ⟨w.heap.size, 0, none⟩ = some (.slice a ns.length cap) := (hBv.cell (p := ⟨w.heap.size, 0, none⟩) (by show w.heap.size < G; omega)).trans c0
  have SU := Lib.hid su
  have SV := Lib.hid sv
  have HBV := Lib.hid hBv
  have HBU := Lib.hid hBu
  clear hz eu ev eG hT hrow su sv hBv hBu ha hl hzu
  go_enter Try.func55, Try.ntmps55
  go_wp2_with (first
    | (rw [← EU.out])
    | (at_make; refine list_make_all u rfl _ _ 98 rfl 100 i0 (.pointer none) Try.underlying98 hi0 hz0 .i64 .i64 _ _ ns.length rfl rfl rfl rfl (by rw [hz2]; omega) (by unfold maxLen; omega) ?_; rw [← EV.out, SU.out])
    | fail)
  go_loopw [4, 14] (fun _ iv wr => LoRel G b off ns.length u iv wr) (fun _ i _ => ns.length - (intOf i).toNat)
  case atStart => exact ⟨0, Nat.zero_le _, rfl, SV.out, HROW.out, fun j hj => absurd hj (Nat.not_lt_zero _), HBV.out⟩
  case round =>
    obtain ⟨k, hk, rfl, hsz, ho, hraw, hb⟩ := hrel
    by_cases hlt : k < ns.length
    · rcases HA.out with h0 | rfl
      · rw [h0] at hlt; exact absurd hlt (Nat.not_lt_zero _)
      have hGs : w.heap.size < G := by rw [EG.out]; omega
      have cw : wr.cell? ⟨w.heap.size, 0, none⟩ = some (.slice (some ⟨b, off, none⟩) ns.length cap) := (hb.cell (p := ⟨w.heap.size, 0, none⟩) hGs).trans c0
      have hlo : (0 : Int) ≤ (k : Int) := Int.natCast_nonneg _
      have hhi : (k : Int) < (ns.length : Int) := by omega
      obtain ⟨v1, ev1⟩ : ∃ v1, v1 = wr.alloc (.cells #[.int .i64 ((k : Int) + 1), .pointer (some ⟨b, off + k * 64, none⟩), .pointer none, .slice none 0 0] 111) := ⟨_, rfl⟩
      have cw1 : v1.cell? ⟨w.heap.size, 0, none⟩ = some (.slice (some ⟨b, off, none⟩) ns.length cap) := by rw [ev1]; exact ((bel_alloc wr _).cell (p := ⟨w.heap.size, 0, none⟩) (by show w.heap.size < wr.heap.size; omega)).trans cw
      have h1 := hp_new wr (.cells #[.int .i64 ((k : Int) + 1), .pointer (some ⟨b, off + k * 64, none⟩), .pointer none, .slice none 0 0] 111)
      have ho1 := World.ownsRow.alloc ho (.cells #[.int .i64 ((k : Int) + 1), .pointer (some ⟨b, off + k * 64, none⟩), .pointer none, .slice none 0 0] 111)
      have hb1 := hb.alloc (by omega) (.cells #[.int .i64 ((k : Int) + 1), .pointer (some ⟨b, off + k * 64, none⟩), .pointer none, .slice none 0 0] 111)
      have hr1 : ∀ j, j < k + 1 → v1.heap[G + 1 + j]? = some (raw b off j) := fun j hj => by
        by_cases e : j = k
        · subst e; rw [ev1, ← hsz]; exact h1
        · rw [ev1]; exact hp_on (hraw j (by omega)) _
      rw [← ev1] at ho1 hb1
      have s1 : v1.heap.size = G + 1 + (k + 1) := by rw [ev1]; simp; omega
      have c2 : ∃ q, v1.cell? ⟨G, k, none⟩ = some q := by
        rw [World.ownsRow.cellAt ho1 k (by omega)]
        exact ⟨_, List.getElem?_eq_getElem (by rw [pL_len (by omega)]; omega)⟩
      obtain ⟨q2, c2⟩ := c2
      have f2 := World.ownsRow.frozenAt ho1 k
      have hst := (World.ownsRow.stored ho1 k (.pointer (some ⟨G + 1 + k, 0, none⟩))).1
      rw [pL_set hlt] at hst
      have hgs := grown_set v1 G k (.pointer (some ⟨G + 1 + k, 0, none⟩))
      have hr2 : ∀ j, j < k + 1 → (v1.setCell ⟨G, k, none⟩ (.pointer (some ⟨G + 1 + k, 0, none⟩))).heap[G + 1 + j]? = some (raw b off j) := fun j hj => hp_set (hr1 j hj) (by omega) _ _
      have hb2 := bl_set hb1 (g := G) k (Nat.le_refl _) (.pointer (some ⟨G + 1 + k, 0, none⟩))
      have HSZ := Lib.hid hsz
      have EV1 := Lib.hid ev1
      have HST := Lib.hid hst
      have HR2 := Lib.hid hr2
      have HB2 := Lib.hid hb2
      have S1 := Lib.hid s1
      clear ho hraw hb ev1 h1 ho1 hb1 hr1 hst hgs hr2 hb2 hsz s1 c0 cv
      go_wp2_with (first
        | (rw [← EV1.out])
        | fail)
      rw [HSZ.out]
      go_roundw
      case rel => exact ⟨k + 1, by omega, by go_num, by have := S1.out; simp; omega, HST.out, HR2.out, HB2.out⟩
      case measure => simp [intOf]; omega
    · obtain rfl : k = ns.length := by omega
      have hall : AllP wr G ns.length := fun j hj => by rw [World.ownsRow.cellAt ho j (by omega)]; exact pL_at hj
      have R0 := Lib.hid (show LcRel G b off ns u (.int .i64 ((0 : Nat) : Int)) wr from ⟨0, fun _ => undef, fun _ => undef, Nat.zero_le _, rfl, hall, by omega, fun i n h => absurd h (Nat.not_lt_zero _), fun j _ hj => hraw j hj, fun i j x h => absurd h (Nat.not_lt_zero _), hb⟩)
      clear ho hraw hb hall hsz c0 cv
      go_wp2_with (fail)
      go_loopw [6, 31] (fun _ iv wr => LcRel G b off ns u iv wr) (fun _ i _ => ns.length - (intOf i).toNat)
      case atStart => exact R0.out
      case round =>
        clear R0
        obtain ⟨k, ups, kvs, hk, rfl, hall, hG, hcon, hraw, hdis, hb⟩ := hrel
        by_cases hlt : k < ns.length
        · rcases HA.out with h0 | rfl
          · rw [h0] at hlt; exact absurd hlt (Nat.not_lt_zero _)
          have hlo : (0 : Int) ≤ (k : Int) := Int.natCast_nonneg _
          have hhi : (k : Int) < (ns.length : Int) := by omega
          have cp := hall k hlt
          obtain ⟨b', off', eab, hbl, hnd⟩ := HZ.out.look hlt
          cases eab
          have hnk : ns[k]? = some ns[k] := List.getElem?_eq_getElem hlt
          have hok := HZ.out.1 ns[k] (List.getElem_mem hlt)
          have hkl : ns[k].kids.length ≤ 1048576 := by
            have h1 := szK_le hlt
            have h2 := HL.out
            unfold szS at h2
            unfold szK at h1
            omega
          have hrk := hraw k (Nat.le_refl _) hlt
          have hbu : Below _ u _ := hb.mono (show u.heap.size ≤ G by rw [SU.out]; exact Nat.le_refl _)
          have R := Lib.hid (iconnect G ns.length ns.length k b (off + k * 64) ns[k] _ hok hkl hlt hnl hall hG u hnd hbu (by rw [SU.out]; exact Nat.le_refl _) hrk)
          have HALL := Lib.hid hall
          have HCON := Lib.hid hcon
          have HRAW := Lib.hid hraw
          have HDIS := Lib.hid hdis
          have HB := Lib.hid hb
          have HNK := Lib.hid hnk
          have HGG := Lib.hid hG
          clear hall hcon hraw hdis hb hnk hok hkl hrk hbu hnd hG
          go_wp2_with (fail)
          refine (R.out).mono ?_
          rintro e w2 ⟨⟨rv, rfl⟩, upv, kv, hs2, hu2, hk2, hg2⟩
          have hall2 := HALL.out.grown (by have := HGG.out; omega) hg2 (by simp; omega)
          have hG2 := Nat.lt_of_lt_of_le HGG.out hg2.size
          have hb2 := HB.out.grown hg2 (by have := HGG.out; omega) (fun x hx => by cases hx; omega)
          have hk2' : KidsP w2 G ns.length (G + ns.length + 1) kv ns[k].kids := by
            obtain ⟨ps, h1, h2⟩ := hk2
            exact ⟨ps, ownsRow_lower h1 (by have := HGG.out; omega), h2⟩
          have hkv : ∀ x, kv.ownBlock = some x → _ ≤ x := fun x hx => by
            obtain ⟨ps, h1, _⟩ := hk2
            exact (World.ownsRow.lt h1 x hx).1
          have hkvs : ∀ i x, i < k → (kvs i).ownBlock = some x → x < _ := fun i x hi hx => by
            obtain ⟨_, _, ps, h1, _⟩ := HCON.out i ns[i] hi (List.getElem?_eq_getElem (by omega))
            exact (World.ownsRow.lt h1 x hx).2
          have R2 := Lib.hid (show LcRel G b off ns u (.int .i64 ((k + 1 : Nat) : Int)) w2 from ⟨k + 1, fun i => if i = k then upv else ups i, fun i => if i = k then kv else kvs i, hlt, rfl, hall2, hG2, fun i n hi hn => by
              by_cases e : i = k
              · subst e
                rw [HNK.out] at hn
                cases hn
                simp only [if_true]
                exact ⟨hs2, hu2, hk2'⟩
              · simp only [e, if_false]
                obtain ⟨p1, p2, p3⟩ := HCON.out i n (by omega) hn
                exact ⟨lk_grown p1 hg2 (by simp; omega), p2.grown hg2 (by omega), p3.grown hg2 (by omega) (by omega)⟩, fun j h1 h2 => lk_grown (HRAW.out j (by omega) h2) hg2 (by simp; omega), fun i j x hi hj h1 h2 => by
              by_cases e1 : i = k <;> by_cases e2 : j = k
              · rw [e1, e2]
              · simp only [e1, if_true] at h1
                simp only [e2, if_false] at h2
                have := hkv x h1
                have := hkvs j x (by omega) h2
                omega
              · simp only [e1, if_false] at h1
                simp only [e2, if_true] at h2
                have := hkv x h2
                have := hkvs i x (by omega) h1
                omega
              · simp only [e1, if_false] at h1
                simp only [e2, if_false] at h2
                exact HDIS.out i j x (by omega) (by omega) h1 h2, hb2⟩)
          clear R hs2 hu2 hk2 hg2 hall2 hG2 hb2 hk2' hkv hkvs HALL HCON HRAW HDIS HB HNK HGG cp
          (try dsimp only)
          go_wp2
          go_roundw
          case rel => exact R2.out
          case measure => simp [intOf]; omega
        · obtain rfl : k = ns.length := by omega
          have hll : (linksOf ns).length = ns.length := by simp [linksOf]
          have R2 := Lib.hid (show Linked _ G b off (linksOf ns) from ⟨by rw [hll]; exact hall, by rw [hll]; exact hG, ups, kvs, fun i l hi => by
              rw [linksOf, List.getElem?_map] at hi
              cases hn : ns[i]? with
              | none => rw [hn] at hi; cases hi
              | some n =>
                rw [hn] at hi
                simp at hi
                subst hi
                rw [hll]
                exact hcon i n (List.getElem?_eq_some_iff.1 hn).1 hn, by rw [hll]; exact hdis⟩)
          have HB := Lib.hid (HBU.out.trans (hb.mono (show w.heap.size ≤ G by rw [EG.out]; omega)))
          clear hall hG hcon hraw hdis hb
          go_wp2
          go_ret
          refine ⟨by rw [← EG.out]; rfl, by rw [← EG.out]; exact R2.out, HB.out⟩
end Go.Proofs.Ytjlgcnhjifdgfaa
