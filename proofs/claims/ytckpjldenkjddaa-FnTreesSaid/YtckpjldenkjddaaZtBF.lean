import Derived.Shelf.Spec.SlicesInsertGrow
import Derived.Test.YtckpjldenkjddaaZtAY
import Derived.Test.YtckpjldenkjddaaZtBA
import Derived.Test.YtckpjldenkjddaaZtBE
section
namespace Go.Proofs.Ytckpjldenkjddaa
open Go.ChangeShapes Go.WideShapes Go.ChangeAt Go.RowKit
set_option linter.unusedVariables false
set_option linter.unusedSimpArgs false
set_option maxRecDepth 8000

def hM (g : Int → Int) (zs : List Int) : Int := zs.foldl (fun m k => if m < g k then g k else m) 0
/-- The height of the node z, looked at f levels deep. -/
def hF (ns : List PN) : Nat → Int → Int
  | 0, _ => 0
  | f + 1, z => hM (hF ns f) (kidsZ ns z) + 1
theorem hM_snoc (g : Int → Int) (zs : List Int) (k : Int) : hM g (zs ++ [k]) = if hM g zs < g k then g k else hM g zs := by unfold hM; rw [List.foldl_append]; rfl
theorem hM_take (g : Int → Int) {zs : List Int} {k : Nat} (h : k < zs.length) : hM g (zs.take (k + 1)) = if hM g (zs.take k) < g (zs.getD k 0) then g (zs.getD k 0) else hM g (zs.take k) := by
  rw [List.take_succ_eq_append_getElem h, hM_snoc]
  have : zs.getD k 0 = zs[k] := by rw [List.getD_eq_getElem?_getD, List.getElem?_eq_getElem h]; rfl
  rw [this]
theorem foldl_between (g : Int → Int) (B : Int) (hg : ∀ k, 0 ≤ g k ∧ g k ≤ B) : ∀ (zs : List Int) (m : Int), 0 ≤ m ∧ m ≤ B → 0 ≤ zs.foldl (fun m k => if m < g k then g k else m) m ∧ zs.foldl (fun m k => if m < g k then g k else m) m ≤ B
  | [], m, h => h
  | k :: zs, m, h => by
    rw [List.foldl_cons]
    refine foldl_between g B hg zs _ ?_
    split
    · exact hg k
    · exact h
theorem hF_le (ns : List PN) : ∀ (f : Nat) (z : Int), 0 ≤ hF ns f z ∧ hF ns f z ≤ (f : Int)
  | 0, z => by simp [hF]
  | f + 1, z => by
    have := foldl_between (hF ns f) f (hF_le ns f) (kidsZ ns z) 0 ⟨Int.le_refl _, by omega⟩
    unfold hF hM
    omega
theorem hM_le (ns : List PN) (f : Nat) (zs : List Int) : 0 ≤ hM (hF ns f) zs ∧ hM (hF ns f) zs ≤ (f : Int) := foldl_between (hF ns f) f (hF_le ns f) zs 0 ⟨Int.le_refl _, by omega⟩
def HgRel (g : Int → Int) (zs : List Int) (w : World) (h j : Value) (wr : World) : Prop :=
  ∃ k : Nat, k ≤ zs.length ∧ j = .int .i64 k ∧ h = .int .i64 (hM g (zs.take k)) ∧ wr = w
set_option maxHeartbeats 2000000 in
theorem iheight (G b off : Nat) (ns : List PN) (w : World) (hL : Linked w G b off (linksOf ns)) (hk : ∀ n ∈ ns, n.kids.length ≤ 1048576) :
    ∀ (f : Nat), f ≤ 1000 → ∀ (z : Int) (s : Nat), PtrTo w G ns.length z (.pointer (some ⟨s, 0, none⟩)) → hOk ns f z →
    Calls Try.prog 108 #[.pointer (some ⟨s, 0, none⟩)] w fun e w' => e = .returned (.int .i64 (hF ns f z)) ∧ w' = w
  | 0, _, z, s, _, h => h.elim
  | f + 1, hf, z, s, hp, h => by
    have IH := Lib.hid (iheight G b off ns w hL hk f (by omega))
    obtain ⟨va, vc, c3, hka⟩ := hL.kids hp
    have hzl : (kidsZ ns z).length ≤ 1048576 := by
      unfold kidsZ
      split
      · rename_i h1
        have h2 := nIn_iff.1 h1
        have hk' : (z - 1).toNat < ns.length := by omega
        rw [ndAt_get h2 hk']
        exact hk _ (List.getElem_mem hk')
      · exact Nat.zero_le _
    have h' : ∀ k ∈ kidsZ ns z, hOk ns f k := h
    have e : hF ns (f + 1) z = hM (hF ns f) (kidsZ ns z) + 1 := rfl
    rw [e]
    generalize kidsZ ns z = zs at *
    have HKA := Lib.hid hka
    have HO := Lib.hid h'
    have HB := Lib.hid (hM_le ns f)
    have HV := Lib.hid (hF_le ns f)
    have GT : ∀ k, k < zs.length → zs.getD k 0 ∈ zs := fun k h => by
      rw [List.getD_eq_getElem?_getD, List.getElem?_eq_getElem h]; exact List.getElem_mem h
    have HGT := Lib.hid GT
    clear hka hp hL h h' e GT
    go_enter Try.func108, Try.ntmps108
    go_wp2_with (fail)
    go_loopw [3, 5, 11] (fun h _ j wr => HgRel (hF ns f) zs w h j wr) (fun _ _ j _ => zs.length - (intOf j).toNat)
    case atStart => exact ⟨0, Nat.zero_le _, rfl, by simp [hM], rfl⟩
    case round =>
      obtain ⟨k, hkz, rfl, rfl, rfl⟩ := hrel
      by_cases hlt : k < zs.length
      · obtain ⟨g, s', rfl, cp, hps⟩ := HKA.out k hlt
        have hlo : (0 : Int) ≤ (k : Int) := Int.natCast_nonneg _
        have hhi : (k : Int) < (zs.length : Int) := by omega
        have hb := HB.out (zs.take k)
        have hv := HV.out (zs.getD k 0)
        have CL := Lib.hid (IH.out _ s' hps (HO.out _ (HGT.out k hlt)))
        have HT := Lib.hid (hM_take (hF ns f) hlt)
        obtain ⟨m, em⟩ : ∃ q, q = hM (hF ns f) (zs.take k) := ⟨_, rfl⟩
        rw [← em] at hb HT ⊢
        obtain ⟨v, ev⟩ : ∃ q, q = hF ns f (zs.getD k 0) := ⟨_, rfl⟩
        rw [← ev] at hv HT CL
        clear c3 hps em ev
        go_wp2_with (fail)
        refine (CL.out).mono ?_
        rintro e w' ⟨rfl, rfl⟩
        go_wp2
        go_roundw
        case rel => exact ⟨k + 1, by omega, by go_num, by rw [HT.out] <;> (congr 1; rw [Int.max_def]; split <;> split <;> omega), rfl⟩
        case measure => simp [intOf]; omega
      · obtain rfl : k = zs.length := by omega
        rw [List.take_length]
        have hb := HB.out zs
        have hw : IntKind.i64.wrap (hM (hF ns f) zs + 1) = hM (hF ns f) zs + 1 := IntWalk.i64_in _ (by omega)
        clear c3
        go_wp2
        go_ret
        exact ⟨rfl, rfl⟩
set_option linter.unusedVariables false
set_option linter.unusedSimpArgs false
set_option maxRecDepth 8000

def insP (ps : List Value) (t : Nat) (x : Value) : List Value := ps.take t ++ [x] ++ ps.drop t
theorem own_full {w : World} {lo g cap n : Nat} {e : TypeId} {ps : List Value} (h : w.ownsRow lo e 1 (.slice (some ⟨g, 0, none⟩) n cap) n ps) : ∃ qs, w.ownsRow lo e 1 (.slice (some ⟨g, 0, none⟩) cap cap) cap qs ∧ qs.take n = ps := by
  rcases h.2 with ⟨e1, _⟩ | ⟨g', cap', cur, e1, e2, e3, e4, e5, e6, e7⟩
  · cases e1
  · simp at e1
    obtain ⟨rfl, rfl⟩ := e1
    refine ⟨cur.toList, ⟨by rw [Array.length_toList, e6], Or.inr ⟨g, cap, cur, rfl, e2, e3, Nat.le_refl _, e5, e6, ?_⟩⟩, by rw [← e7, Nat.mul_one]⟩
    exact List.take_of_length_le (by rw [Array.length_toList, e6]; exact Nat.le_refl _)
theorem ins_at {ps : List Value} {t i : Nat} {x : Value} (ht : t ≤ ps.length) : (insP ps t x)[i]? = if i < t then ps[i]? else if i = t then some x else ps[i - 1]? := by
  unfold insP
  by_cases h1 : i < t
  · rw [if_pos h1, List.getElem?_append_left (by simp; omega), List.getElem?_append_left (by simp; omega), List.getElem?_take, if_pos h1]
  · rw [if_neg h1]
    by_cases h2 : i = t
    · rw [if_pos h2, List.getElem?_append_left (by simp; omega), List.getElem?_append_right (by simp; omega)]
      simp [h2, Nat.min_eq_left ht]
    · rw [if_neg h2, List.getElem?_append_right (by simp; omega), List.getElem?_drop]
      congr 1
      simp
      omega
theorem ins_cells {qs ps : List Value} {n t : Nat} {x : Value} (hp : qs.take n = ps) (ht : t < n) (hn : n + 1 ≤ qs.length) : (setL (setL qs (t + 1) (ps.drop t)) t [x]).take (n + 1) = insP ps t x := by
  have hl : ps.length = n := by rw [← hp]; simp; omega
  have hq : ∀ i, i < n → qs[i]? = ps[i]? := fun i hi => by rw [← hp, List.getElem?_take, if_pos hi]
  apply List.ext_getElem?
  intro i
  rw [List.getElem?_take, ins_at (by omega)]
  by_cases hi : i < n + 1
  · rw [if_pos hi, setL_at _ _ _ _ (by rw [setL_len]; simp; omega), setL_at _ _ _ _ (by simp; omega)]
    by_cases h1 : i < t
    · rw [if_neg (by omega), if_neg (by omega), if_pos h1, hq i (by omega)]
    · by_cases h2 : i = t
      · rw [if_pos (by simp; omega), if_neg h1, if_pos h2, h2]; simp
      · rw [if_neg (by simp; omega), if_pos (by simp; omega), if_neg h1, if_neg h2, List.getElem?_drop]
        congr 1
        omega
  · rw [if_neg hi, if_neg (by omega), if_neg (by omega), List.getElem?_eq_none (by omega)]
theorem ins_grow {R ps : List Value} {n t : Nat} {x : Value} (hl : ps.length = n) (ht : t < n) (hR : n + 1 ≤ R.length) (hRt : ∀ i, i < t → R[i]? = ps[i]?) : (setL (setL R t [x]) (t + 1) (ps.drop t)).take (n + 1) = insP ps t x := by
  apply List.ext_getElem?
  intro i
  rw [List.getElem?_take, ins_at (by omega)]
  by_cases hi : i < n + 1
  · rw [if_pos hi, setL_at _ _ _ _ (by rw [setL_len]; simp; omega), setL_at _ _ _ _ (by simp; omega)]
    by_cases h1 : i < t
    · rw [if_neg (by omega), if_neg (by omega), if_pos h1, hRt i h1]
    · by_cases h2 : i = t
      · rw [if_neg (by omega), if_pos (by simp; omega), if_neg h1, if_pos h2, h2]; simp
      · rw [if_pos (by simp; omega), if_neg h1, if_neg h2, List.getElem?_drop]
        congr 1
        omega
  · rw [if_neg hi, if_neg (by omega), if_neg (by omega), List.getElem?_eq_none (by omega)]
/-- What slices.Insert leaves. -/
def InsPost (lo n t : Nat) (v x : Value) (ps : List Value) (w : World) (e : Ending) (w' : World) : Prop :=
  ∃ (a : Option Addr) (c : Nat), e = .returned (.slice a (n + 1) c) ∧ w'.ownsRow lo 84 1 (.slice a (n + 1) c) (n + 1) (insP ps t x) ∧ w.grownBy w' v.ownBlock ∧ ((Value.slice a (n + 1) c).ownBlock = v.ownBlock ∨ ∃ b, (Value.slice a (n + 1) c).ownBlock = some b ∧ w.heap.size ≤ b)
theorem bl_setCells {n g : Nat} {w : World} : ∀ (vs : List Value) (o : Nat) (v : World), Below n w v → n ≤ g → Below n w (v.setCells g o vs)
  | [], _, _, h, _ => h
  | u :: vs, o, v, h, hg => bl_setCells vs (o + 1) _ (bl_set h o hg u) hg
theorem sz_ptr : ∀ w, (Go.sizeOf 84).run Try.prog w = .ok 1 w := fun w => by kernel_rfl
set_option maxHeartbeats 2000000 in
theorem iins_end (va : Option Addr) (cap n vb lo : Nat) (ps : List Value) (x : Value) (w : World) (ho : w.ownsRow lo 84 1 (.slice va n cap) n ps) (hx : w.heap[vb]? = some (.cells #[x] 84)) (h1 : x.oneCell' = true) (hn : n ≤ 1048576) (hlo : lo ≤ w.heap.size) :
    Calls Try.prog 109 #[.slice va n cap, .int .i64 n, .slice (some ⟨vb, 0, none⟩) 1 1] w (InsPost lo n n (.slice va n cap) x ps w) := by
  obtain ⟨i0, hi0, hz0, hz1, hz2⟩ := info_parts info_ptr
  have hnews := World.news_of_block hx
  have hpl : ps.length = n := by simpa using ho.1
  have hip : insP ps n x = ps ++ [x] := by unfold insP; rw [List.take_of_length_le (by omega), List.drop_of_length_le (by omega), List.append_nil]
  have key : ∀ (v' : Value) (w' : World), w'.ownsRow lo 84 1 v' (n + 1) (ps ++ [x]) → w.grownBy w' (Value.slice va n cap).ownBlock → (v'.ownBlock = (Value.slice va n cap).ownBlock ∨ v'.ownBlock = some w.heap.size) → InsPost lo n n (.slice va n cap) x ps w (.returned v') w' := fun v' w' h2 h3 h4 => by
    obtain ⟨a, c, rfl⟩ := own_form h2
    refine ⟨a, c, rfl, by rw [hip]; exact h2, h3, ?_⟩
    rcases h4 with h | h
    · exact Or.inl h
    · exact Or.inr ⟨_, h, Nat.le_refl _⟩
  have KEY := Lib.hid key
  clear key hip
  have HO := Lib.hid ho
  have HNEWS := Lib.hid hnews
  rcases ho.2 with ⟨e1, e2⟩ | ⟨g, cap', cur, e1, e2, e3, e4, e5, e6, e7⟩
  · simp only [Value.slice.injEq] at e1
    obtain ⟨rfl, rfl, rfl⟩ := e1
    clear ho hnews hx
    go_enter Try.func109, Try.ntmps109
    go_wp2_with (first
      | (at_builtin; refine list_append_any rfl _ _ 81 rfl lo 84 i0 (.pointer none) 1 8 Try.underlying81 hi0 hz0 hz1 hz2 rfl (by decide) (.slice none 0 0) 0 ps rfl HO.out (some ⟨vb, 0, none⟩) 1 1 [x] rfl rfl (Or.inr ⟨_, rfl, HNEWS.out⟩) (by simpa using h1) (by decide) (by decide) hlo ?_)
      | fail)
    intro v' w' h2 h3 h4
    have K := Lib.hid (KEY.out v' w' h2 h3 h4)
    clear h2 h3 h4
    go_wp2
    go_ret
    exact K.out
  · simp only [Value.slice.injEq] at e1
    obtain ⟨rfl, _, rfl⟩ := e1
    have hcap : cap ≤ 9223372036854775807 := by unfold maxLen at e5; omega
    clear ho hnews hx e2 e3 e5 e6 e7
    go_enter Try.func109, Try.ntmps109
    go_wp2_with (first
      | (at_builtin; refine list_append_any rfl _ _ 81 rfl lo 84 i0 (.pointer none) 1 8 Try.underlying81 hi0 hz0 hz1 hz2 rfl (by decide) (.slice (some ⟨g, 0, none⟩) n cap) n ps rfl HO.out (some ⟨vb, 0, none⟩) 1 1 [x] rfl rfl (Or.inr ⟨_, rfl, HNEWS.out⟩) (by simpa using h1) (by unfold maxLen; omega) (by omega) hlo ?_)
      | fail)
    all_goals
      intro v' w' h2 h3 h4
      have K := Lib.hid (KEY.out v' w' h2 h3 h4)
      clear h2 h3 h4
      go_wp2
      go_ret
      exact K.out
set_option maxHeartbeats 4000000 in
theorem iins_shift (cap n t g vb lo : Nat) (ps : List Value) (x : Value) (w : World) (ho : w.ownsRow lo 84 1 (.slice (some ⟨g, 0, none⟩) n cap) n ps) (hx : w.heap[vb]? = some (.cells #[x] 84)) (hg : vb ≠ g) (h1 : x.oneCell' = true) (h2 : ∀ u ∈ ps, u.oneCell' = true) (hn : n ≤ 1048576) (ht : t < n) (hc : n + 1 ≤ cap) :
    Calls Try.prog 109 #[.slice (some ⟨g, 0, none⟩) n cap, .int .i64 t, .slice (some ⟨vb, 0, none⟩) 1 1] w (InsPost lo n t (.slice (some ⟨g, 0, none⟩) n cap) x ps w) := by
  obtain ⟨i0, hi0, hz0, hz1, hz2⟩ := info_parts info_ptr
  have hsz : (Try.prog.info? 84).map (·.size) = some 1 := by rw [hi0]; simp [hz1]
  obtain ⟨hpl, hnc, hcm⟩ := own_facts ho
  have hcap : cap ≤ 9223372036854775807 := by unfold maxLen at hcm; omega
  obtain ⟨qs, hqo, hqp⟩ := own_full ho
  have hql : qs.length = cap := by simpa using hqo.1
  have hbg : ∃ cur, w.heap[g]? = some (.cells cur 84) ∧ cur.size = cap := by
    rcases ho.2 with ⟨e1, _⟩ | ⟨g', cap', cur, e1, e2, e3, e4, e5, e6, e7⟩
    · cases e1
    · simp at e1
      obtain ⟨rfl, rfl⟩ := e1
      exact ⟨cur, e3, by omega⟩
  obtain ⟨cur, hcg, hcs⟩ := hbg
  have hsv : w.shape? vb = some (84, 1) := by unfold World.shape?; rw [hx]; rfl
  have hsg : w.shape? g = some (84, cap) := by unfold World.shape?; rw [hcg]; simp [hcs]
  have hov : ∀ lb cb, (callFunc 140 #[.slice (some ⟨vb, 0, none⟩) 1 1, .slice (some ⟨g, t + 1, none⟩) lb cb]).run Try.prog w = .ok (.value (.bool false)) w := fun lb cb => by
    rw [run_callFunc_extern Try.func140 (by kernel_rfl) (by kernel_rfl) (by kernel_rfl) (e := Extern.SlicesOverlaps.overlaps #[81, 81] #[4]) (by kernel_rfl),
      Lib.run_overlaps_apart w 81 4 84 Try.underlying81 1 sz_ptr ⟨vb, 0, none⟩ ⟨g, t + 1, none⟩ 1 1 lb cb hg 84 84 1 cap hsv hsg (by omega) (Go.Joins.unfrozen_of_block hx 0) (Go.Joins.unfrozen_of_block hx 1)]
    rfl
  have hdl : (ps.drop t).length = n - t := by rw [List.length_drop, hpl]
  have hps : ∀ j u, ps[j]? = some u → w.cell? ⟨g, j, none⟩ = some u := fun j u hj => by
    have hjn : j < n := by have := (List.getElem?_eq_some_iff.1 hj).1; omega
    rw [World.ownsRow.cellAt hqo j (by omega), ← hj, ← hqp, List.getElem?_take, if_pos hjn]
  have hsome : ∀ j, j < cap → (w.cell? ⟨g, j, none⟩).isSome = true := fun j hj => by
    rw [World.ownsRow.cellAt hqo j (by omega), List.getElem?_eq_getElem (by omega)]; rfl
  have hfz : ∀ j, w.frozen? ⟨g, j, none⟩ = false := fun j => World.ownsRow.frozenAt hqo j
  have hcp1 : ∀ ty dc sc L1 L2, L1 = n - t → L2 = n + 1 - t → (Builtin.copy_ #[81, 81] ty #[.slice (some ⟨g, t + 1, none⟩) L1 dc, .slice (some ⟨g, t, none⟩) L2 sc]).run Try.prog w.drew = .ok (goInt (ps.drop t).length) (w.drew.setCells g (t + 1) (ps.drop t)) := fun ty dc sc L1 L2 e1 e2 =>
    run_copy_cells w.drew _ _ ty 84 g (t + 1) L1 dc ⟨g, t, none⟩ L2 sc (ps.drop t) Try.underlying81 hsz (by rw [hdl]; simp only [Nat.min_def]; split <;> omega)
      (fun j v hj => by rw [Addr.add_lit]; exact hps (t + j) v (by rwa [List.getElem?_drop] at hj))
      (fun j hj => hsome _ (by omega)) (fun j hj => hfz _) (fun v hv => h2 v (List.mem_of_mem_drop hv))
  obtain ⟨W1, hW1⟩ : ∃ W1, W1 = w.drew.setCells g (t + 1) (ps.drop t) := ⟨_, rfl⟩
  rw [← hW1] at hcp1
  have ho1 : W1.ownsRow lo 84 1 (.slice (some ⟨g, 0, none⟩) cap cap) cap (setL qs (t + 1) (ps.drop t)) := by rw [hW1]; exact ownsRow_setCells (ps.drop t) qs (t + 1) w.drew (World.ownsRow.drew hqo)
  have g1 : w.grownBy W1 (some g) := by rw [hW1]; exact gr_cells _ _ _ ⟨rfl, rfl, rfl, Nat.le_refl _, fun _ _ _ => rfl⟩
  have hx1 : W1.heap[vb]? = some (.cells #[x] 84) := lk_grown hx g1 (fun e => hg (by simpa using e))
  have hcp2 : ∀ ty dc, (Builtin.copy_ #[81, 81] ty #[.slice (some ⟨g, t, none⟩) (n + 1 - t) dc, .slice (some ⟨vb, 0, none⟩) 1 1]).run Try.prog W1 = .ok (goInt [x].length) (W1.setCells g t [x]) := fun ty dc =>
    run_copy_cells W1 _ _ ty 84 g t (n + 1 - t) dc ⟨vb, 0, none⟩ 1 1 [x] Try.underlying81 hsz (by simp only [Nat.min_def]; split <;> simp <;> omega)
      (World.news_of_block hx1)
      (fun j hj => by
        have : j = 0 := by simpa using hj
        rw [World.ownsRow.cellAt ho1 (t + j) (by omega), List.getElem?_eq_getElem (by rw [setL_len]; omega)]; rfl)
      (fun j hj => World.ownsRow.frozenAt ho1 _) (by simpa using h1)
  have D : InsPost lo n t (.slice (some ⟨g, 0, none⟩) n cap) x ps w (.returned (.slice (some ⟨g, 0, none⟩) (n + 1) cap)) (W1.setCells g t [x]) := by
    refine ⟨some ⟨g, 0, none⟩, cap, rfl, ?_, gr_cells _ _ _ g1, Or.inl rfl⟩
    have h := own_take (ownsRow_setCells [x] _ t _ ho1) hc
    rw [Nat.mul_one, ins_cells hqp ht (by omega)] at h
    exact h
  obtain ⟨W2, hW2⟩ : ∃ W2, W2 = W1.setCells g t [x] := ⟨_, rfl⟩
  rw [← hW2] at D hcp2
  have DD := Lib.hid D
  have HW := Lib.hid hW1
  have hw1 : IntKind.i64.wrap ((t : Int) + 1) = (t : Int) + 1 := IntWalk.i64_in _ (by omega)
  have hw2 : IntKind.i64.wrap ((n : Int) + 1) = (n : Int) + 1 := IntWalk.i64_in _ (by omega)
  have hb1 : (0 : Int) ≤ (t : Int) + 1 := by omega
  have hb0 : (0 : Int) ≤ (n : Int) + 1 := by omega
  have hnt : ¬ ((t : Int) = (n : Int)) := by omega
  have hin : t ≤ n := by omega
  have hb2 : ¬ (cap = t + 1) := by omega
  have hb4 : ¬ (cap = t) := by omega
  have hb3 : (t : Int) ≤ (n : Int) + 1 := by omega
  have hb5 : (t : Int) + 1 ≤ (n : Int) + 1 := by omega
  have hb6 : ¬ ((cap : Int) < (n : Int) + 1) := by omega
  have hb7 : (n : Int) + 1 ≤ (cap : Int) := by omega
  have htn : ((t : Int) + 1).toNat = t + 1 := by omega
  have hnn : ((n : Int) + 1).toNat = n + 1 := by omega
  have mixed : Try.prog.follows .mixedOrders = true := by kernel_rfl
  clear hW1 hW2 D hx hqo hqp hql hcg hcs hsv hsg hdl hps hsome hfz ho1 g1 hx1 h1 h2 ho hpl hcm hsz cur
  go_enter Try.func109, Try.ntmps109
  go_wp2_with (simp only [hov])
  go_region_law_o (refine step_copy_runI rfl _ _ 81 81 rfl (.slice (some ⟨g, t + 1, none⟩) (n - t) (cap - (t + 1))) (.slice (some ⟨g, t, none⟩) (n + 1 - t) (cap - t)) (by simp [Act.eval, Act.put]) (by simp [Act.eval, Act.put]) (hcp1 _ _ _ _ _ (by omega) (by omega)) ?_)
  go_wp2_with (at_builtin; refine wpList_copy_runI _ rfl _ _ 81 81 rfl _ _ rfl rfl (hcp2 _ _) ?_)
  go_ret
  exact DD.out
set_option maxHeartbeats 4000000 in
theorem iins_grow (cap n t g vb lo : Nat) (ps : List Value) (x : Value) (w : World) (ho : w.ownsRow lo 84 1 (.slice (some ⟨g, 0, none⟩) n cap) n ps) (hx : w.heap[vb]? = some (.cells #[x] 84)) (h1 : x.oneCell' = true) (h2 : ∀ u ∈ ps, u.oneCell' = true) (hn : n ≤ 1048576) (ht : t < n) (hc : cap < n + 1) (hlo : lo ≤ w.heap.size) :
    Calls Try.prog 109 #[.slice (some ⟨g, 0, none⟩) n cap, .int .i64 t, .slice (some ⟨vb, 0, none⟩) 1 1] w (InsPost lo n t (.slice (some ⟨g, 0, none⟩) n cap) x ps w) := by
  obtain ⟨i0, hi0, hz0, hz1, hz2⟩ := info_parts info_ptr
  have hsz : (Try.prog.info? 84).map (·.size) = some 1 := by rw [hi0]; simp [hz1]
  obtain ⟨hpl, hnc, hcm⟩ := own_facts ho
  have hcap : cap ≤ 9223372036854775807 := by unfold maxLen at hcm; omega
  have hgw : g < w.heap.size := (World.ownsRow.lt ho g rfl).2
  have hvw : vb < w.heap.size := hp_lt hx
  have hps : ∀ j u, ps[j]? = some u → w.cell? ⟨g, j, none⟩ = some u := fun j u hj => by
    have hjn : j < n := by have := (List.getElem?_eq_some_iff.1 hj).1; omega
    rw [World.ownsRow.cellAt ho j (by omega), hj]
  have hdl : (ps.drop t).length = n - t := by rw [List.length_drop, hpl]
  have hkk : (n : Int) + 1 - (t : Int) = ((n + 1 - t : Nat) : Int) := by omega
  have hik : t + (n + 1 - t) = n + 1 := by omega
  have hold : (Builtin.firstCells i0.size t (.slice (some ⟨g, 0, none⟩) t cap)).run Try.prog w.drew = .ok (ps.take t).toArray w.drew := by
    rw [hz1]
    exact run_firstCells_some w.drew 1 t ⟨g, 0, none⟩ t cap (ps.take t) (by rw [List.length_take]; omega) (fun j v hj => by
      rw [Addr.add_lit, Nat.zero_add]
      rw [List.getElem?_take] at hj
      split at hj
      · exact hps j v hj
      · cases hj)
  obtain ⟨G, hG⟩ : ∃ G, G = grownCap w (n + 1) cap 84 := ⟨_, rfl⟩
  obtain ⟨R, hR⟩ : ∃ R : Array Value, R = (ps.take t).toArray ++ Builtin.zeroCells (Value.pointer none).cells (n + 1 - t) ++ Builtin.zeroCells (Value.pointer none).cells (G - (n + 1)) := ⟨_, rfl⟩
  obtain ⟨W1, hW1⟩ : ∃ W1, W1 = w.drew.alloc (.cells R 84) := ⟨_, rfl⟩
  have hrz : ∀ ty, (Builtin.append_ #[81, 3] ty #[.slice (some ⟨g, 0, none⟩) t cap, .int .i64 ((n : Int) + 1 - (t : Int))]).run Try.prog w = .ok (.slice (some ⟨w.heap.size, 0, none⟩) (n + 1) G) W1 := fun ty => by
    have h := Lib.run_append_grow_zeros w 81 3 ty 84 i0 _ .i64 .i64 Try.underlying81 Try.underlying3 hi0 hz0 (some ⟨g, 0, none⟩) t cap (ps.take t) hold (n + 1 - t) (by omega) (by omega) (by omega) (by omega) (by rw [hz2]; omega) (by rw [hz2, hik]; exact growslice_fits hc (by omega))
    rw [hik] at h
    rw [hkk, hW1, hR, hG]
    exact h
  have hGn : n + 1 ≤ G := by rw [hG]; exact grownCap_ge w _ _ _
  have hGm : G ≤ maxLen := by rw [hG]; exact grownCap_le_maxLen w (n + 1) cap 84 (by unfold maxLen; omega)
  have hRl : R.size = G := by
    rw [hR]
    simp [Builtin.zeroCells, Value.cells]
    omega
  have hRt : ∀ i, i < t → R.toList[i]? = ps[i]? := fun i hi => by
    rw [hR]
    simp only [Array.toList_append, List.append_assoc]
    rw [List.getElem?_append_left (by simp; omega), List.getElem?_take, if_pos hi]
  have b1 : Below w.heap.size w W1 := by rw [hW1]; exact ((Below.refl w.heap.size w).drew).trans (bel_alloc w.drew _)
  have o1 : W1.ownsRow w.heap.size 84 1 (.slice (some ⟨w.heap.size, 0, none⟩) G G) G R.toList := by
    rw [hW1]
    exact World.ownsRow_lit w.drew R G (Nat.le_refl _) hGm (by omega)
  obtain ⟨W2, hW2⟩ : ∃ W2, W2 = W1.setCells w.heap.size t [x] := ⟨_, rfl⟩
  have hRL : R.toList.length = G := by rw [Array.length_toList, hRl]
  have hcpA : ∀ ty dc L1, L1 = n + 1 - t → (Builtin.copy_ #[81, 81] ty #[.slice (some ⟨w.heap.size, t, none⟩) L1 dc, .slice (some ⟨vb, 0, none⟩) 1 1]).run Try.prog W1 = .ok (goInt [x].length) W2 := fun ty dc L1 e1 => by
    rw [hW2]
    exact run_copy_cells W1 _ _ ty 84 w.heap.size t L1 dc ⟨vb, 0, none⟩ 1 1 [x] Try.underlying81 hsz (by simp only [Nat.min_def]; split <;> simp <;> omega)
      (World.news_of_block (hp_bl hx hvw b1))
      (fun j hj => by
        have : j = 0 := by simpa using hj
        rw [World.ownsRow.cellAt o1 (t + j) (by omega), List.getElem?_eq_getElem (by omega)]; rfl)
      (fun j hj => World.ownsRow.frozenAt o1 _) (by simpa using h1)
  have o2 : W2.ownsRow w.heap.size 84 1 (.slice (some ⟨w.heap.size, 0, none⟩) G G) G (setL R.toList t [x]) := by rw [hW2]; exact ownsRow_setCells [x] _ t W1 o1
  have b2 : Below w.heap.size w W2 := by rw [hW2]; exact bl_setCells _ _ _ b1 (Nat.le_refl _)
  have hcpB : ∀ ty dc sc L1 L2, L1 = n - t → L2 = n - t → (Builtin.copy_ #[81, 81] ty #[.slice (some ⟨w.heap.size, t + 1, none⟩) L1 dc, .slice (some ⟨g, t, none⟩) L2 sc]).run Try.prog W2.drew = .ok (goInt (ps.drop t).length) (W2.drew.setCells w.heap.size (t + 1) (ps.drop t)) := fun ty dc sc L1 L2 e1 e2 =>
    run_copy_cells W2.drew _ _ ty 84 w.heap.size (t + 1) L1 dc ⟨g, t, none⟩ L2 sc (ps.drop t) Try.underlying81 hsz (by rw [hdl]; simp only [Nat.min_def]; split <;> omega)
      (fun j v hj => by rw [Addr.add_lit]; exact (b2.cell (p := ⟨g, t + j, none⟩) hgw).trans (hps (t + j) v (by rwa [List.getElem?_drop] at hj)))
      (fun j hj => by
        show (W2.cell? _).isSome = true
        rw [World.ownsRow.cellAt o2 _ (by omega), List.getElem?_eq_getElem (by rw [setL_len]; omega)]; rfl)
      (fun j hj => World.ownsRow.frozenAt o2 _) (fun v hv => h2 v (List.mem_of_mem_drop hv))
  obtain ⟨W3, hW3⟩ : ∃ W3, W3 = W2.drew.setCells w.heap.size (t + 1) (ps.drop t) := ⟨_, rfl⟩
  rw [← hW3] at hcpB
  have b3 : Below w.heap.size w W3 := by rw [hW3]; exact bl_setCells _ _ _ b2.drew (Nat.le_refl _)
  have D : InsPost lo n t (.slice (some ⟨g, 0, none⟩) n cap) x ps w (.returned (.slice (some ⟨w.heap.size, 0, none⟩) (n + 1) G)) W3 := by
    refine ⟨some ⟨w.heap.size, 0, none⟩, G, rfl, ?_, bel_grown b3 _, Or.inr ⟨_, rfl, Nat.le_refl _⟩⟩
    have h := own_take (ownsRow_setCells (ps.drop t) _ (t + 1) _ (World.ownsRow.drew o2)) hGn
    rw [Nat.mul_one, ins_grow hpl ht (by omega) hRt, ← hW3] at h
    exact ownsRow_lower h hlo
  have DD := Lib.hid D
  have hw1 : IntKind.i64.wrap ((t : Int) + 1) = (t : Int) + 1 := IntWalk.i64_in _ (by omega)
  have hw2 : IntKind.i64.wrap ((n : Int) + 1) = (n : Int) + 1 := IntWalk.i64_in _ (by omega)
  have hw3 : IntKind.i64.wrap ((n : Int) + 1 - (t : Int)) = (n : Int) + 1 - (t : Int) := IntWalk.i64_in _ (by omega)
  have hb1 : (0 : Int) ≤ (t : Int) + 1 := by omega
  have hnt : ¬ ((t : Int) = (n : Int)) := by omega
  have hin : t ≤ n := by omega
  have htc : t ≤ cap := by omega
  have hb2 : ¬ (G = t + 1) := by omega
  have hb4 : ¬ (G = t) := by omega
  have hb3 : (t : Int) ≤ (n : Int) + 1 := by omega
  have hb5 : (t : Int) + 1 ≤ (n : Int) + 1 := by omega
  have hb6 : (cap : Int) < (n : Int) + 1 := by omega
  have hb8 : ¬ (cap = t) := by omega
  have hb9 : (t : Int) ≤ (n : Int) := by omega
  have hb10 : (t : Int) ≤ (cap : Int) := by omega
  have htn : ((t : Int) + 1).toNat = t + 1 := by omega
  have hG63 : G ≤ 9223372036854775807 := by unfold maxLen at hGm; omega
  have mixed : Try.prog.follows .mixedOrders = true := by kernel_rfl
  clear hW1 hW2 hW3 D hx hps hdl hkk hik hold hG hR hRl hRt hRL b1 o1 o2 b2 b3 h1 h2 ho hpl hcm hsz hGm hgw hvw
  go_enter Try.func109, Try.ntmps109
  go_wp2_with (first
    | (at_builtin; refine Lib.wpList_append_run _ rfl _ _ _ _ rfl _ _ rfl rfl _ _ (hrz _) ?_)
    | (at_builtin; refine wpList_copy_runI _ rfl _ _ 81 81 rfl _ _ rfl rfl (hcpA _ _ _ (by omega)) ?_)
    | fail)
  go_region_law_o (refine step_copy_runI rfl _ _ 81 81 rfl (.slice (some ⟨w.heap.size, t + 1, none⟩) (n - t) (G - (t + 1))) (.slice (some ⟨g, t, none⟩) (n - t) (cap - t)) (by simp [Act.eval, Act.put]) (by simp [Act.eval, Act.put]) (hcpB _ _ _ _ _ (by omega) (by omega)) ?_)
  go_wp2
  go_ret
  exact DD.out
/-- slices.Insert of one linked node. -/
theorem iins (va : Option Addr) (cap n t vb lo : Nat) (ps : List Value) (x : Value) (w : World) (ho : w.ownsRow lo 84 1 (.slice va n cap) n ps) (hx : w.heap[vb]? = some (.cells #[x] 84)) (hne : (Value.slice va n cap).ownBlock ≠ some vb) (h1 : x.oneCell' = true) (h2 : ∀ u ∈ ps, u.oneCell' = true) (hn : n ≤ 1048576) (ht : t ≤ n) (hlo : lo ≤ w.heap.size) :
    Calls Try.prog 109 #[.slice va n cap, .int .i64 t, .slice (some ⟨vb, 0, none⟩) 1 1] w (InsPost lo n t (.slice va n cap) x ps w) := by
  by_cases e : t = n
  · subst e; exact iins_end va cap t vb lo ps x w ho hx h1 hn hlo
  · obtain ⟨g, rfl⟩ : ∃ g, va = some ⟨g, 0, none⟩ := by
      rcases ho.2 with ⟨e1, e2⟩ | ⟨g, cap', cur, e1, _⟩
      · omega
      · simp only [Value.slice.injEq] at e1; exact ⟨g, e1.1⟩
    have hg : vb ≠ g := fun e => hne (by rw [e]; rfl)
    by_cases hc : n + 1 ≤ cap
    · exact iins_shift cap n t g vb lo ps x w ho hx hg h1 h2 hn (by omega) hc
    · exact iins_grow cap n t g vb lo ps x w ho hx h1 h2 hn (by omega) (by omega) hlo
/-- The links of the nodes once the node c has been put under p, at t. -/
def insLk (ls : List (Int × List Int)) (p c t : Nat) (lp lc : Int × List Int) : List (Int × List Int) := (ls.set p (lp.1, insL lp.2 ((c : Int) + 1) (t : Int))).set c ((p : Int) + 1, lc.2)
theorem insP_insL {ks : List Int} {ps : List Value} {t : Nat} {y : Int} {x : Value} {Q : Int → Value → Prop} (hl : ps.length = ks.length) (ht : t ≤ ks.length) (h : ∀ (j : Nat) (z : Int), ks[j]? = some z → ∃ q, ps[j]? = some q ∧ Q z q) (hx : Q y x) :
    ∀ (j : Nat) (z : Int), (insL ks y (t : Int))[j]? = some z → ∃ q, (insP ps t x)[j]? = some q ∧ Q z q := fun j z hz => by
  have e : ∀ i, (insL ks y (t : Int))[i]? = if i < t then ks[i]? else if i = t then some y else ks[i - 1]? := fun i => by
    unfold insL
    rw [Int.toNat_natCast]
    by_cases h1 : i < t
    · rw [if_pos h1, List.getElem?_append_left (by simp; omega), List.getElem?_append_left (by simp; omega), List.getElem?_take, if_pos h1]
    · rw [if_neg h1]
      by_cases h2 : i = t
      · rw [if_pos h2, List.getElem?_append_left (by simp; omega), List.getElem?_append_right (by simp; omega)]
        simp [h2, Nat.min_eq_left ht]
      · rw [if_neg h2, List.getElem?_append_right (by simp; omega), List.getElem?_drop]
        congr 1
        simp
        omega
  rw [e] at hz
  rw [ins_at (by omega)]
  split
  · rename_i h1; rw [if_pos h1] at hz; exact h j z hz
  · rename_i h1
    rw [if_neg h1] at hz
    split
    · rename_i h2; rw [if_pos h2] at hz; cases hz; exact ⟨x, rfl, hx⟩
    · rename_i h2; rw [if_neg h2] at hz; exact h (j - 1) z hz
theorem Linked.ins {w w1 w2 w3 : World} {G b off p c t c' : Nat} {a' : Option Addr} {ls : List (Int × List Int)} {lp lc : Int × List Int} {ps : List Value} {ups kvs : Nat → Value} (hAll : AllP w G ls.length) (hG : G + ls.length < w.heap.size)
    (h3 : ∀ (i : Nat) (l : Int × List Int), ls[i]? = some l → w.heap[G + 1 + i]? = some (.cells (lkA (i + 1) (.pointer (some ⟨b, off + i * 64, none⟩)) (ups i) (kvs i)) 95) ∧ UpP w G ls.length l.1 (ups i) ∧ KidsP w G ls.length (G + ls.length + 1) (kvs i) l.2)
    (h4 : ∀ (i j x : Nat), i < ls.length → j < ls.length → (kvs i).ownBlock = some x → (kvs j).ownBlock = some x → i = j)
    (hp : ls[p]? = some lp) (hc : ls[c]? = some lc) (hpc : p ≠ c) (ht : t ≤ lp.2.length)
    (hps : w.ownsRow (G + ls.length + 1) 84 1 (kvs p) lp.2.length ps) (hpt : ∀ (j : Nat) (z : Int), lp.2[j]? = some z → ∃ q, ps[j]? = some q ∧ PtrTo w G ls.length z q)
    (ho1 : w1.ownsRow (G + ls.length + 1) 84 1 (.slice a' (lp.2.length + 1) c') (lp.2.length + 1) (insP ps t (.pointer (some ⟨G + 1 + c, 0, none⟩)))) (hg1 : w.grownBy w1 (kvs p).ownBlock)
    (hob : (Value.slice a' (lp.2.length + 1) c').ownBlock = (kvs p).ownBlock ∨ ∃ q, (Value.slice a' (lp.2.length + 1) c').ownBlock = some q ∧ w.heap.size ≤ q)
    (e2 : w2 = w1.setCell ⟨G + 1 + p, 3, none⟩ (.slice a' (lp.2.length + 1) c')) (e3 : w3 = w2.setCell ⟨G + 1 + c, 2, none⟩ (.pointer (some ⟨G + 1 + p, 0, none⟩))) :
    Linked w3 G b off (insLk ls p c t lp lc) ∧ Below G w w3 := by
  have hpl := (List.getElem?_eq_some_iff.1 hp).1
  have hcl := (List.getElem?_eq_some_iff.1 hc).1
  have hgk : ∀ x, (kvs p).ownBlock = some x → G + ls.length + 1 ≤ x := fun x hx => (World.ownsRow.lt hps x hx).1
  have hlen : (insLk ls p c t lp lc).length = ls.length := by simp [insLk]
  have hpl2 : ps.length = lp.2.length := by simpa using hps.1
  have g2 : w1.grownBy w2 (some (G + 1 + p)) := by rw [e2]; exact gr_set (World.grownBy.refl w1 _)
  have g3 : w2.grownBy w3 (some (G + 1 + c)) := by rw [e3]; exact gr_set (World.grownBy.refl w2 _)
  have hB : Below G w w3 := by
    have b0 : Below G w w := Below.refl _ _
    have b1 : Below G w w1 := b0.grown hg1 (by omega) (fun q hq => by have := hgk q hq; omega)
    have b2 : Below G w w2 := by rw [e2]; exact bl_set b1 3 (by omega) _
    rw [e3]; exact bl_set b2 2 (by omega) _
  have hnG : ∀ k, k ≤ G + ls.length → (kvs p).ownBlock ≠ some k := fun k hk e => by have := hgk k e; omega
  have up3 : ∀ {z : Int} {v : Value}, UpP w G ls.length z v → UpP w3 G ls.length z v := fun h => ((h.app hps hg1).grown g2 (by omega)).grown g3 (by omega)
  have kid3 : ∀ {v : Value} {zs : List Int}, KidsP w1 G ls.length (G + ls.length + 1) v zs → KidsP w3 G ls.length (G + ls.length + 1) v zs := fun h => (h.grown g2 (by omega) (by omega)).grown g3 (by omega) (by omega)
  have far : ∀ i, i < ls.length → i ≠ p → ∀ {zs : List Int}, KidsP w G ls.length (G + ls.length + 1) (kvs i) zs → KidsP w3 G ls.length (G + ls.length + 1) (kvs i) zs := fun i hi hip {zs} h => kid3 (h.far hps hg1 (fun x hx e => hip (h4 i p x hi hpl hx e)))
  have blk1 : ∀ i l, ls[i]? = some l → w1.heap[G + 1 + i]? = some (.cells (lkA (i + 1) (.pointer (some ⟨b, off + i * 64, none⟩)) (ups i) (kvs i)) 95) := fun i l hl => by
    have hi := (List.getElem?_eq_some_iff.1 hl).1
    exact lk_grown (h3 i l hl).1 hg1 (fun e => hnG (G + 1 + i) (by omega) e.symm)
  have hnp : ((p : Int) + 1) ≠ 0 := by omega
  have nP : ∀ (W : World) (k : Nat), k < ls.length → PtrTo W G ls.length ((k : Int) + 1) (.pointer (some ⟨G + 1 + k, 0, none⟩)) := fun W k hk => ⟨G + 1 + k, rfl, Or.inl ⟨nIn_iff.2 ⟨by omega, by omega⟩, by omega⟩⟩
  refine ⟨⟨?_, by rw [hlen]; exact Nat.lt_of_lt_of_le hG (Nat.le_trans hg1.size (Nat.le_trans g2.size g3.size)), fun i => if i = c then .pointer (some ⟨G + 1 + p, 0, none⟩) else ups i, fun i => if i = p then .slice a' (lp.2.length + 1) c' else kvs i, fun i l hl => ?_, fun i j x hi hj h5 h6 => ?_⟩, hB⟩
  · rw [hlen]
    exact ((hAll.grown (by omega) hg1 (hnG G (by omega))).grown (by have := hg1.size; omega) g2 (fun e => by simp at e; omega)).grown (by have := hg1.size; have := g2.size; omega) g3 (fun e => by simp at e; omega)
  · rw [hlen]
    by_cases ic : i = c
    · subst ic
      have hl' : l = ((p : Int) + 1, lc.2) := by
        rw [insLk, List.getElem?_set_self (by simpa using hcl)] at hl
        exact (Option.some.inj hl).symm
      subst hl'
      simp only [↓reduceIte, if_neg (Ne.symm hpc)]
      refine ⟨?_, by unfold UpP; rw [if_neg hnp]; exact nP w3 p hpl, far i hcl (Ne.symm hpc) (h3 i lc hc).2.2⟩
      have hb1 := hp_set (g' := G + 1 + p) (blk1 i lc hc) (by omega) 3 (.slice a' (lp.2.length + 1) c')
      rw [← e2] at hb1
      have hb2 := Go.Joins.block_setCell (i := 2) hb1 (.pointer (some ⟨G + 1 + p, 0, none⟩))
      rw [← e3] at hb2
      rw [hb2, lkA_put2]
    · by_cases ip : i = p
      · subst ip
        have hl' : l = (lp.1, insL lp.2 ((c : Int) + 1) (t : Int)) := by
          rw [insLk, List.getElem?_set_ne (Ne.symm ic), List.getElem?_set_self hpl] at hl
          exact (Option.some.inj hl).symm
        subst hl'
        simp only [↓reduceIte, if_neg ic]
        have hil : (insL lp.2 ((c : Int) + 1) (t : Int)).length = lp.2.length + 1 := by rw [insL_len ht]; omega
        refine ⟨?_, up3 (h3 i lp hp).2.1, kid3 ⟨insP ps t (.pointer (some ⟨G + 1 + c, 0, none⟩)), by rw [hil]; exact ho1, insP_insL hpl2 ht (fun j z hz => ?_) (nP w1 c hcl)⟩⟩
        · have hb1 := Go.Joins.block_setCell (i := 3) (blk1 i lp hp) (.slice a' (lp.2.length + 1) c')
          rw [← e2] at hb1
          have hb2 := hp_set (g' := G + 1 + c) hb1 (by omega) 2 (.pointer (some ⟨G + 1 + i, 0, none⟩))
          rw [← e3] at hb2
          rw [hb2, lkA_put3]
        · obtain ⟨q, q1, q2⟩ := hpt j z hz
          exact ⟨q, q1, q2.app hps hg1⟩
      · have hl' : ls[i]? = some l := by rw [insLk, List.getElem?_set_ne (Ne.symm ic), List.getElem?_set_ne (Ne.symm ip)] at hl; exact hl
        have hi := (List.getElem?_eq_some_iff.1 hl').1
        simp only [if_neg ic, if_neg ip]
        refine ⟨?_, up3 (h3 i l hl').2.1, far i hi ip (h3 i l hl').2.2⟩
        have hb1 := hp_set (g' := G + 1 + p) (blk1 i l hl') (by omega) 3 (.slice a' (lp.2.length + 1) c')
        rw [← e2] at hb1
        have hb2 := hp_set (g' := G + 1 + c) hb1 (by omega) 2 (.pointer (some ⟨G + 1 + p, 0, none⟩))
        rw [← e3] at hb2
        exact hb2
  · rw [hlen] at hi hj
    have hold : ∀ k, k < ls.length → ∀ q, (kvs k).ownBlock = some q → q < w.heap.size := fun k hk q hq => by
      obtain ⟨qs, h1, _⟩ := (h3 k _ (List.getElem?_eq_getElem hk)).2.2
      exact (World.ownsRow.lt h1 q hq).2
    have hnew : ∀ k, k < ls.length → k ≠ p → (Value.slice a' (lp.2.length + 1) c').ownBlock = some x → (kvs k).ownBlock = some x → False := fun k hk hkp h7 h8 => by
      rcases hob with h | ⟨q, h, hq⟩
      · exact hkp (h4 k p x hk hpl h8 (by rw [← h]; exact h7))
      · rw [h7] at h
        cases h
        have := hold k hk x h8
        omega
    by_cases ei : i = p
    · by_cases ej : j = p
      · omega
      · simp only [if_pos ei, if_neg ej] at h5 h6
        exact (hnew j hj ej h5 h6).elim
    · by_cases ej : j = p
      · simp only [if_neg ei, if_pos ej] at h5 h6
        exact (hnew i hi ei h6 h5).elim
      · simp only [if_neg ei, if_neg ej] at h5 h6
        exact h4 i j x hi hj h5 h6
set_option maxHeartbeats 4000000 in
/-- linkedNode.insert -/
theorem iinsert (G b off p c t : Nat) (ls : List (Int × List Int)) (lp lc : Int × List Int) (w : World) (hL : Linked w G b off ls) (hp : ls[p]? = some lp) (hc : ls[c]? = some lc) (hpc : p ≠ c) (ht : t ≤ lp.2.length) (hzl : lp.2.length ≤ 1048576) :
    Calls Try.prog 66 #[.pointer (some ⟨G + 1 + p, 0, none⟩), .pointer (some ⟨G + 1 + c, 0, none⟩), .int .i64 t] w fun e w' => (∃ r, e = .returned r) ∧ Linked w' G b off (insLk ls p c t lp lc) ∧ Below G w w' := by
  have hb0 := bel_alloc w (.cells #[.pointer (some ⟨G + 1 + c, 0, none⟩)] 84)
  have hv0 := hp_new w (.cells #[.pointer (some ⟨G + 1 + c, 0, none⟩)] 84)
  obtain ⟨w0, ew0⟩ : ∃ q, q = w.alloc (.cells #[.pointer (some ⟨G + 1 + c, 0, none⟩)] 84) := ⟨_, rfl⟩
  rw [← ew0] at hb0 hv0
  have hpl := (List.getElem?_eq_some_iff.1 hp).1
  have hcl := (List.getElem?_eq_some_iff.1 hc).1
  have hGw := hL.2.1
  obtain ⟨hAll, hG, ups, kvs, h3, h4⟩ := hL.below hb0
  obtain ⟨q1, q2, q3⟩ := h3 p lp hp
  obtain ⟨ps, hps, hpt⟩ := q3
  obtain ⟨va, cap, ekv⟩ := own_form hps
  have hone : ∀ u ∈ ps, u.oneCell' = true := fun u hu => by
    obtain ⟨j, hj⟩ := List.mem_iff_getElem?.1 hu
    have hjl := (List.getElem?_eq_some_iff.1 hj).1
    have hl1 : ps.length = lp.2.length := by simpa using hps.1
    rw [hl1] at hjl
    obtain ⟨q, e, s, rfl, _⟩ := hpt j _ (List.getElem?_eq_getElem hjl)
    rw [hj] at e
    cases e
    rfl
  have hwq : w.heap[G + 1 + p]? = some (.cells (lkA (p + 1) (.pointer (some ⟨b, off + p * 64, none⟩)) (ups p) (kvs p)) 95) := (hb0.block (G + 1 + p) (by omega)).symm.trans q1
  have c3 : w.cell? ⟨G + 1 + p, 3, none⟩ = some (kvs p) := (Go.Joins.cell_of_block hwq 3).trans rfl
  have c30 : w0.cell? ⟨G + 1 + p, 3, none⟩ = some (kvs p) := (Go.Joins.cell_of_block q1 3).trans rfl
  have hap : (Value.slice va lp.2.length cap).ownBlock ≠ some w.heap.size := fun e => by
    have h : w0.ownsRow (G + ls.length + 1) 84 1 (.slice va lp.2.length cap) lp.2.length ps := by rw [← ekv]; exact hps
    obtain ⟨qs, hq, _⟩ := (hL.2.2.choose_spec.choose_spec.1 p lp hp).2.2
    have hk := hL.2.2.choose_spec.choose_spec.1 p lp hp
    have e9 := hk.1.symm.trans hwq
    have e10 : hL.2.2.choose_spec.choose p = kvs p := by
      have := congrArg (fun o : Option Obj => match o with | some (.cells cs _ _) => cs[3]? | _ => none) e9
      simpa [lkA] using this
    rw [e10, ekv] at hq
    have := (World.ownsRow.lt hq _ e).2
    omega
  have KI0 := iins va cap lp.2.length t w.heap.size (G + ls.length + 1) ps (.pointer (some ⟨G + 1 + c, 0, none⟩)) w0 (by rw [← ekv]; exact hps) hv0 hap rfl hone hzl ht (by have := hb0.size; omega)
  have KC := Lib.hid (fun w1 w2 w3 a' c' h5 h6 h7 h8 h9 => Linked.ins (w1 := w1) (w2 := w2) (w3 := w3) (t := t) (a' := a') (c' := c') hAll hG h3 h4 hp hc hpc ht hps hpt h5 h6 h7 h8 h9)
  have KI := Lib.hid KI0
  have hgk : ∀ q, (Value.slice va lp.2.length cap).ownBlock = some q → G + ls.length + 1 ≤ q := fun q hq => (World.ownsRow.lt hps q (by rw [ekv]; exact hq)).1
  have Q1 := Lib.hid q1
  have Q2 := Lib.hid (h3 c lc hc).1
  rw [ekv] at c3 c30
  have EW0 := Lib.hid ew0
  have HB0 := Lib.hid hb0
  have EKV := Lib.hid ekv
  have HGK := Lib.hid hgk
  clear q1 q2 hps hone hAll hG h3 h4 hpt hv0 hb0 KI0 ew0 hwq hap ekv hgk hL
  go_enter Try.func66, Try.ntmps66
  go_wp2_with (first
    | (rw [← EW0.out])
    | fail)
  refine (KI.out).mono ?_
  rintro e w1 ⟨a', k', rfl, ho1, hg1, hob⟩
  have b3 := lk_grown Q1.out hg1 (fun e => by have := HGK.out _ e.symm; omega)
  have b4 := lk_grown Q2.out hg1 (fun e => by have := HGK.out _ e.symm; omega)
  obtain ⟨w2, e2⟩ : ∃ q, q = w1.setCell ⟨G + 1 + p, 3, none⟩ (.slice a' (lp.2.length + 1) k') := ⟨_, rfl⟩
  have b5 := hp_set (g' := G + 1 + p) b4 (by omega) 3 (.slice a' (lp.2.length + 1) k')
  rw [← e2] at b5
  obtain ⟨w3, e3⟩ : ∃ q, q = w2.setCell ⟨G + 1 + c, 2, none⟩ (.pointer (some ⟨G + 1 + p, 0, none⟩)) := ⟨_, rfl⟩
  have D0 := KC.out w1 w2 w3 a' k' ho1 (by rw [EKV.out]; exact hg1) (by rw [EKV.out]; exact hob) e2 e3
  have D := Lib.hid (And.intro D0.1 ((HB0.out.mono (by omega)).trans D0.2))
  have E2 := Lib.hid e2
  have E3 := Lib.hid e3
  have c5 : w1.cell? ⟨G + 1 + p, 3, none⟩ = some (kvs p) := (Go.Joins.cell_of_block b3 3).trans rfl
  have f5 := Go.Joins.unfrozen_of_block b3 3
  have c6 : w2.cell? ⟨G + 1 + c, 2, none⟩ = some (ups c) := (Go.Joins.cell_of_block b5 2).trans rfl
  have f6 := Go.Joins.unfrozen_of_block b5 2
  clear b3 b4 b5 e2 e3 ho1 hg1 hob D0
  (try dsimp only)
  go_wp2_with (first
    | (rw [← E2.out])
    | (rw [← E3.out])
    | fail)
  exact bodyPost_end (v := .tuple #[]) (by simp [results, Try.results66, go_sem]) rfl ⟨⟨_, rfl⟩, D.out⟩
set_option linter.unusedVariables false
set_option linter.unusedSimpArgs false

theorem hM_cases (g : Int → Int) (hg : ∀ k, 0 ≤ g k) (zs : List Int) : (hM g zs = 0 ∨ ∃ k ∈ zs, hM g zs = g k) ∧ ∀ k ∈ zs, g k ≤ hM g zs := by
  have key : ∀ (n : Nat), n ≤ zs.length → (hM g (zs.take n) = 0 ∨ ∃ k ∈ zs.take n, hM g (zs.take n) = g k) ∧ ∀ k ∈ zs.take n, g k ≤ hM g (zs.take n) := fun n => by
    induction n with
    | zero => intro _; simp [hM]
    | succ n ih =>
      intro hn
      obtain ⟨h1, h2⟩ := ih (by omega)
      have hlt : n < zs.length := by omega
      rw [List.take_succ_eq_append_getElem hlt, hM_snoc]
      by_cases hc : hM g (zs.take n) < g zs[n]
      · rw [if_pos hc]
        refine ⟨Or.inr ⟨zs[n], List.mem_append_right _ (List.mem_singleton.2 rfl), rfl⟩, fun k hk => ?_⟩
        rcases List.mem_append.1 hk with h | h
        · have := h2 k h; omega
        · simp at h; subst h; exact Int.le_refl _
      · rw [if_neg hc]
        refine ⟨h1.imp id (fun ⟨k, hk, e⟩ => ⟨k, List.mem_append_left _ hk, e⟩), fun k hk => ?_⟩
        rcases List.mem_append.1 hk with h | h
        · exact h2 k h
        · simp at h; subst h; omega
  have := key zs.length (Nat.le_refl _)
  rwa [List.take_length] at this
/-- Whoever stands under x is counted by its height. -/
theorem hF_ge {ns : List PN} (ht : treeB ns = true) (z : Int) : ∀ (j f : Nat), (∀ i, i ≤ j → nIn ns.length (wayZ ns z i) = true) → 1 ≤ f → ((j : Int) + 1) ≤ hF ns (f + j) (wayZ ns z j)
  | 0, f, hin, hf => by
    obtain ⟨f, rfl⟩ : ∃ q, f = q + 1 := ⟨f - 1, by omega⟩
    have := hM_le ns f (kidsZ ns z)
    show ((0 : Nat) : Int) + 1 ≤ hM (hF ns f) (kidsZ ns z) + 1
    omega
  | j + 1, f, hin, hf => by
    have h1 := hF_ge ht z j f (fun i hi => hin i (by omega)) hf
    have h2 := mem_kids ht (hin j (by omega)) (nIn_ne (hin (j + 1) (Nat.le_refl _)))
    have h3 := (hM_cases (hF ns (f + j)) (fun k => (hF_le ns (f + j) k).1) (kidsZ ns (upZ ns (wayZ ns z j)))).2 _ h2.2
    show ((j + 1 : Nat) : Int) + 1 ≤ hM (hF ns (f + j)) (kidsZ ns (upZ ns (wayZ ns z j))) + 1
    omega
/-- And somebody under x stands as deep as the height says. -/
theorem hF_some {ns : List PN} (ht : treeB ns = true) : ∀ (f : Nat) (x : Int), nIn ns.length x = true → ∃ (z : Int) (j : Nat), wayZ ns z j = x ∧ (∀ i, i ≤ j → nIn ns.length (wayZ ns z i) = true) ∧ hF ns (f + 1) x = (j : Int) + 1
  | f, x, hx => by
    have h0 : hF ns (f + 1) x = hM (hF ns f) (kidsZ ns x) + 1 := rfl
    rcases (hM_cases (hF ns f) (fun k => (hF_le ns f k).1) (kidsZ ns x)).1 with h | ⟨k, hk, h⟩
    · exact ⟨x, 0, rfl, fun i hi => by obtain rfl : i = 0 := by omega
                                       exact hx, by rw [h0, h]; rfl⟩
    · cases f with
      | zero => exact ⟨x, 0, rfl, fun i hi => by obtain rfl : i = 0 := by omega
                                                 exact hx, by rw [h0, h]; rfl⟩
      | succ f =>
        obtain ⟨h1, h2⟩ := kid_of ht hk
        obtain ⟨z, j, h3, h4, h5⟩ := hF_some ht f k h1
        refine ⟨z, j + 1, by rw [wayZ, h3, h2], fun i hi => ?_, by rw [h0, h, h5]; omega⟩
        by_cases e : i = j + 1
        · subst e; rw [wayZ, h3, h2]; exact hx
        · exact h4 i (by omega)
section
variable {ns : List PN} {p c : Nat} {m : Int}
def insN (p c : Nat) (m : Int) (i : Nat) (n : PN) : PN := { n with up := if i = c then (p : Int) + 1 else n.up, kids := if i = p then insL n.kids ((c : Int) + 1) m else n.kids }
theorem insSet_len (ns : List PN) (z y m : Int) : (insSet ns z y m).length = ns.length := by simp [insSet, insK]
theorem insSet_at (hp : p < ns.length) (hc : c < ns.length) (hpc : p ≠ c) {i : Nat} (hi : i < ns.length) : (insSet ns ((p : Int) + 1) ((c : Int) + 1) m)[i]? = some (insN p c m i ns[i]) := by
  have e1 : ((p : Int) + 1 - 1).toNat = p := by omega
  have e2 : ((c : Int) + 1 - 1).toNat = c := by omega
  unfold insSet
  rw [e2]
  have hK : insK ns ((p : Int) + 1) ((c : Int) + 1) m = ns.set p { ns[p] with kids := insL ns[p].kids ((c : Int) + 1) m } := by unfold insK; rw [e1, ndAt_nat hp]
  have hKc : ndAt (insK ns ((p : Int) + 1) ((c : Int) + 1) m) ((c : Int) + 1) = ns[c] := by
    rw [ndAt_nat (by rw [hK]; simpa using hc)]
    simp only [hK]
    rw [List.getElem_set_ne hpc]
  rw [hKc]
  by_cases ic : i = c
  · subst ic
    rw [List.getElem?_set_self (by rw [hK]; simpa using hc)]
    unfold insN
    rw [if_pos rfl, if_neg (Ne.symm hpc)]
  · rw [List.getElem?_set_ne (Ne.symm ic), hK]
    by_cases ip : i = p
    · subst ip
      rw [List.getElem?_set_self hp]
      unfold insN
      rw [if_neg ic, if_pos rfl]
    · rw [List.getElem?_set_ne (Ne.symm ip), List.getElem?_eq_getElem hi]
      unfold insN
      rw [if_neg ic, if_neg ip]
theorem insSet_nd (hp : p < ns.length) (hc : c < ns.length) (hpc : p ≠ c) {i : Nat} (hi : i < ns.length) : ndAt (insSet ns ((p : Int) + 1) ((c : Int) + 1) m) ((i : Int) + 1) = insN p c m i ns[i] := by
  unfold ndAt
  rw [show ((i : Int) + 1 - 1).toNat = i by omega, insSet_at hp hc hpc hi]
  rfl
theorem insSet_up (hp : p < ns.length) (hc : c < ns.length) (hpc : p ≠ c) {z : Int} (hz : nIn ns.length z = true) : upZ (insSet ns ((p : Int) + 1) ((c : Int) + 1) m) z = if z = (c : Int) + 1 then (p : Int) + 1 else upZ ns z := by
  have h1 := nIn_iff.1 hz
  obtain ⟨i, rfl⟩ : ∃ k : Nat, z = (k : Int) + 1 := ⟨(z - 1).toNat, by omega⟩
  have hi : i < ns.length := by omega
  unfold upZ
  rw [insSet_nd hp hc hpc hi, ndAt_nat hi]
  show (if i = c then (p : Int) + 1 else ns[i].up) = _
  by_cases e : i = c
  · rw [if_pos e, if_pos (by omega)]
  · rw [if_neg e, if_neg (by omega)]
theorem way_same (hp : p < ns.length) (hc : c < ns.length) (hpc : p ≠ c) {z : Int} : ∀ {j : Nat}, (∀ i, i < j → nIn ns.length (wayZ ns z i) = true ∧ wayZ ns z i ≠ (c : Int) + 1) → wayZ (insSet ns ((p : Int) + 1) ((c : Int) + 1) m) z j = wayZ ns z j
  | 0, _ => rfl
  | j + 1, h => by
    rw [wayZ, way_same hp hc hpc (fun i hi => h i (by omega)), insSet_up hp hc hpc (h j (by omega)).1, if_neg (h j (by omega)).2]
    rfl
theorem dp_far (hp : p < ns.length) (hc : c < ns.length) (hpc : p ≠ c) {z : Int} {d : Nat} (h : dpR ns z d) (hn : ∀ i, i < d → wayZ ns z i ≠ (c : Int) + 1) : dpR (insSet ns ((p : Int) + 1) ((c : Int) + 1) m) z d := by
  refine ⟨by rw [way_same hp hc hpc (fun i hi => ⟨h.2 i hi, hn i hi⟩)]; exact h.1, fun i hi => ?_⟩
  rw [insSet_len, way_same hp hc hpc (fun q hq => ⟨h.2 q (by omega), hn q (by omega)⟩)]
  exact h.2 i hi
theorem dp_near (hp : p < ns.length) (hc : c < ns.length) (hpc : p ≠ c) {D : Nat} (hD : dpR ns ((p : Int) + 1) D) (hDn : ∀ i, i < D → wayZ ns ((p : Int) + 1) i ≠ (c : Int) + 1) {z : Int} {j : Nat} (hj : wayZ ns z j = (c : Int) + 1) (hin : ∀ i, i ≤ j → nIn ns.length (wayZ ns z i) = true) (hn : ∀ i, i < j → wayZ ns z i ≠ (c : Int) + 1) :
    dpR (insSet ns ((p : Int) + 1) ((c : Int) + 1) m) z (j + 1 + D) := by
  have hws : ∀ i, i ≤ j → wayZ (insSet ns ((p : Int) + 1) ((c : Int) + 1) m) z i = wayZ ns z i := fun i hi => way_same hp hc hpc (fun q hq => ⟨hin q (by omega), hn q (by omega)⟩)
  have hj1 : wayZ (insSet ns ((p : Int) + 1) ((c : Int) + 1) m) z (j + 1) = (p : Int) + 1 := by
    rw [wayZ, hws j (Nat.le_refl _), hj, insSet_up hp hc hpc (by rw [← hj]; exact hin j (Nat.le_refl _)), if_pos rfl]
  have hF := dp_far (m := m) hp hc hpc hD hDn
  refine ⟨by rw [wayZ_add, hj1]; exact hF.1, fun i hi => ?_⟩
  by_cases h : i ≤ j
  · rw [hws i h, insSet_len]; exact hin i h
  · rw [show i = j + 1 + (i - (j + 1)) by omega, wayZ_add, hj1]
    exact hF.2 _ (by omega)
end
theorem ins_count {ks : List Int} {y x : Int} {m : Nat} : (insL ks y (m : Int)).count x = ks.count x + if y = x then 1 else 0 := by
  unfold insL
  rw [Int.toNat_natCast, List.count_append, List.count_append]
  have : (ks.take m).count x + (ks.drop m).count x = ks.count x := by rw [← List.count_append, List.take_append_drop]
  by_cases e : y = x
  · subst e; simp; omega
  · simp [e]; omega
theorem ins_mem {ks : List Int} {y x : Int} {m : Int} (h : x ∈ insL ks y m) : x = y ∨ x ∈ ks := by
  unfold insL at h
  simp only [List.mem_append, List.mem_singleton] at h
  rcases h with (h | h) | h
  · exact Or.inr (List.mem_of_mem_take h)
  · exact Or.inl h
  · exact Or.inr (List.mem_of_mem_drop h)
/-- Everything but the depths stays right. -/
theorem ins_node {ns : List PN} {p c m : Nat} (ht : treeB ns = true) (hp : p < ns.length) (hc : c < ns.length) (hpc : p ≠ c) (hu : ns[c].up = 0) (hm : ns[p].meas = false) {i : Nat} (hi : i < ns.length) :
    nodeB (insSet ns ((p : Int) + 1) ((c : Int) + 1) (m : Int)) i (insN p c (m : Int) i ns[i]) = depOk (insSet ns ((p : Int) + 1) ((c : Int) + 1) (m : Int)) i := by
  obtain ⟨h1, h2, h3, h4, -⟩ := nodeB_parts (treeB_node ht hi)
  have huc : upZ ns ((c : Int) + 1) = 0 := by unfold upZ; rw [ndAt_nat hc]; exact hu
  have hnc : ∀ (k : Nat) (hk : k < ns.length), (c : Int) + 1 ∉ ns[k].kids := fun k hk hmem => by
    have := (kids_count ht hk hmem)
    have h3 := (nodeB_parts (treeB_node ht hk)).2.2.1
    unfold kidsOk at h3
    have h4 := List.all_eq_true.1 h3 _ hmem
    unfold kidOk at h4
    simp only [Bool.and_eq_true, beq_iff_eq] at h4
    rw [huc] at h4
    omega
  have hkN : ∀ (k : Nat) (hk : k < ns.length), (ndAt (insSet ns ((p : Int) + 1) ((c : Int) + 1) (m : Int)) ((k : Int) + 1)).kids = if k = p then insL ns[k].kids ((c : Int) + 1) (m : Int) else ns[k].kids := fun k hk => by rw [insSet_nd hp hc hpc hk]; rfl
  have e1 : styOk (insN p c (m : Int) i ns[i]).sty = true := h1
  have e4 : conOk (insN p c (m : Int) i ns[i]) = true := by
    unfold conOk at h4 ⊢
    show (if ns[i].meas = true then (if i = p then insL ns[i].kids ((c : Int) + 1) (m : Int) else ns[i].kids).isEmpty && tokB ns[i].rules ns[i].rl else ns[i].rl == 0) = true
    by_cases e : i = p
    · subst e
      rw [if_neg (by rw [hm]; decide)] at h4 ⊢
      exact h4
    · rw [if_neg e]; exact h4
  have e3 : kidsOk (insSet ns ((p : Int) + 1) ((c : Int) + 1) (m : Int)) i (insN p c (m : Int) i ns[i]) = true := by
    unfold kidsOk at h3 ⊢
    refine List.all_eq_true.2 fun z hz => ?_
    have old : z ∈ ns[i].kids → kidOk (insSet ns ((p : Int) + 1) ((c : Int) + 1) (m : Int)) i z = true := fun hz => by
      have h := List.all_eq_true.1 h3 z hz
      unfold kidOk at h ⊢
      simp only [Bool.and_eq_true, beq_iff_eq] at h ⊢
      rw [insSet_len, insSet_up hp hc hpc h.1, if_neg (fun e => hnc i hi (by rw [← e]; exact hz))]
      exact h
    have hz' : z ∈ (if i = p then insL ns[i].kids ((c : Int) + 1) (m : Int) else ns[i].kids) := hz
    by_cases e : i = p
    · rw [if_pos e] at hz'
      rcases ins_mem hz' with h | h
      · unfold kidOk
        have hn : nIn ns.length z = true := by rw [h]; exact nIn_iff.2 ⟨by omega, by omega⟩
        simp only [Bool.and_eq_true, beq_iff_eq]
        rw [insSet_len, insSet_up hp hc hpc hn, if_pos h, e]
        exact ⟨hn, rfl⟩
      · exact old h
    · rw [if_neg e] at hz'
      exact old hz'
  have e2 : upOk (insSet ns ((p : Int) + 1) ((c : Int) + 1) (m : Int)) i (insN p c (m : Int) i ns[i]) = true := by
    unfold upOk at h2 ⊢
    rw [insSet_len]
    show ((if i = c then (p : Int) + 1 else ns[i].up) == 0 || (nIn ns.length (if i = c then (p : Int) + 1 else ns[i].up) && cntZ (ndAt (insSet ns ((p : Int) + 1) ((c : Int) + 1) (m : Int)) (if i = c then (p : Int) + 1 else ns[i].up)).kids ((i : Int) + 1) == 1)) = true
    simp only [Bool.or_eq_true, Bool.and_eq_true, beq_iff_eq] at h2 ⊢
    by_cases e : i = c
    · rw [if_pos e]
      refine Or.inr ⟨nIn_iff.2 ⟨by omega, by omega⟩, ?_⟩
      rw [hkN p hp, if_pos rfl]
      unfold cntZ
      rw [ins_count, if_pos (by omega), e, List.count_eq_zero.2 (hnc p hp)]
    · rw [if_neg e]
      refine h2.imp id fun ⟨h5, h6⟩ => ⟨h5, ?_⟩
      have h7 := nIn_iff.1 h5
      obtain ⟨k, ek⟩ : ∃ k : Nat, ns[i].up = (k : Int) + 1 := ⟨(ns[i].up - 1).toNat, by omega⟩
      rw [ek] at h6 h7 ⊢
      have hk : k < ns.length := by omega
      rw [ndAt_nat hk] at h6
      rw [hkN k hk]
      unfold cntZ at h6 ⊢
      by_cases ep : k = p
      · rw [if_pos ep, ins_count, if_neg (by omega)]; omega
      · rw [if_neg ep]; exact h6
  unfold nodeB
  rw [e1, e2, e3, e4]
  rfl
/-- The tree stays right just where the depth of the parent and the height of the child make at most 4. -/
theorem ins_tree {ns : List PN} {p c m : Nat} (ht : treeB ns = true) (hp : p < ns.length) (hc : c < ns.length) (hpc : p ≠ c) (hu : ns[c].up = 0) (hm : ns[p].meas = false) (hun : unV ns ((p : Int) + 1) ((c : Int) + 1) = false) :
    treeB (insSet ns ((p : Int) + 1) ((c : Int) + 1) (m : Int)) = decide (dpV ns ((p : Int) + 1) + hF ns 4 ((c : Int) + 1) ≤ 4) := by
  have hpi : nIn ns.length ((p : Int) + 1) = true := nIn_iff.2 ⟨by omega, by omega⟩
  have hci : nIn ns.length ((c : Int) + 1) = true := nIn_iff.2 ⟨by omega, by omega⟩
  have huc : upZ ns ((c : Int) + 1) = 0 := by unfold upZ; rw [ndAt_nat hc]; exact hu
  obtain ⟨D, hD, hD1, hD4⟩ := dep_of ht hpi
  have hDn : ∀ i, i < D → wayZ ns ((p : Int) + 1) i ≠ (c : Int) + 1 := fun i hi e => by
    cases i with
    | zero => have : (p : Int) + 1 = (c : Int) + 1 := e
              omega
    | succ i =>
      have : unV ns ((p : Int) + 1) ((c : Int) + 1) = true := (unF_iff ns _ _ _).2 ⟨hci, i, by have := dpR_le hD; omega, fun q hq => hD.2 q (by omega), e⟩
      rw [hun] at this
      cases this
  rw [dpV_of hD]
  have hlen := treeB_len ht
  have bad : ∀ {z : Int} {d : Nat}, nIn ns.length z = true → dpR (insSet ns ((p : Int) + 1) ((c : Int) + 1) (m : Int)) z d → ¬ d ≤ 4 → treeB (insSet ns ((p : Int) + 1) ((c : Int) + 1) (m : Int)) = false := fun {z d} hz hd h4 => by
    have h1 := nIn_iff.1 hz
    obtain ⟨i, rfl⟩ : ∃ k : Nat, z = (k : Int) + 1 := ⟨(z - 1).toNat, by omega⟩
    have hi : i < ns.length := by omega
    have hi' : i < (insSet ns ((p : Int) + 1) ((c : Int) + 1) (m : Int)).length := by rw [insSet_len]; exact hi
    refine tree_bad hi' ?_
    have eg : (insSet ns ((p : Int) + 1) ((c : Int) + 1) (m : Int))[i] = insN p c (m : Int) i ns[i] := by
      have := insSet_at (m := (m : Int)) hp hc hpc hi
      rw [List.getElem?_eq_getElem hi'] at this
      exact Option.some.inj this
    rw [eg, ins_node ht hp hc hpc hu hm hi]
    cases e : depOk (insSet ns ((p : Int) + 1) ((c : Int) + 1) (m : Int)) i with
    | false => rfl
    | true =>
      obtain ⟨d', h5, h6, h7⟩ := depOk_iff.1 e
      have e1 := dpV_of hd
      have e2 := dpV_of h5
      omega
  by_cases hle : (D : Int) + hF ns 4 ((c : Int) + 1) ≤ 4
  · rw [decide_eq_true hle]
    refine tree_good (by rw [insSet_len]; exact hlen) fun i hi' => ?_
    have hi : i < ns.length := by rw [insSet_len] at hi'; exact hi'
    have eg : (insSet ns ((p : Int) + 1) ((c : Int) + 1) (m : Int))[i] = insN p c (m : Int) i ns[i] := by
      have := insSet_at (m := (m : Int)) hp hc hpc hi
      rw [List.getElem?_eq_getElem hi'] at this
      exact Option.some.inj this
    rw [eg, ins_node ht hp hc hpc hu hm hi]
    have hii : nIn ns.length ((i : Int) + 1) = true := nIn_iff.2 ⟨by omega, by omega⟩
    obtain ⟨d, hd, hd1, hd4⟩ := dep_of ht hii
    by_cases hx : ∃ j, j < d ∧ wayZ ns ((i : Int) + 1) j = (c : Int) + 1
    · obtain ⟨j, hj, hjc⟩ := hx
      have hdj : d = j + 1 := by
        by_cases h : j + 1 < d
        · have := nIn_ne (hd.2 (j + 1) h)
          rw [wayZ, hjc, huc] at this
          exact absurd rfl this
        · omega
      have hn : ∀ q, q < j → wayZ ns ((i : Int) + 1) q ≠ (c : Int) + 1 := fun q hq e => by
        have := nIn_ne (hd.2 (q + 1) (by omega))
        rw [wayZ, e, huc] at this
        exact this rfl
      have hnear := dp_near (m := (m : Int)) hp hc hpc hD hDn hjc (fun q hq => hd.2 q (by omega)) hn
      have hge := hF_ge ht ((i : Int) + 1) j (4 - j) (fun q hq => hd.2 q (by omega)) (by omega)
      rw [hjc, show 4 - j + j = 4 by omega] at hge
      exact depOk_iff.2 ⟨_, hnear, by omega, by omega⟩
    · exact depOk_iff.2 ⟨d, dp_far hp hc hpc hd (fun q hq e => hx ⟨q, hq, e⟩), hd1, hd4⟩
  · rw [decide_eq_false hle]
    obtain ⟨z, j, hz, hin, hh⟩ := hF_some ht 3 ((c : Int) + 1) hci
    have hh' : hF ns 4 ((c : Int) + 1) = (j : Int) + 1 := hh
    have hn : ∀ q, q < j → wayZ ns z q ≠ (c : Int) + 1 := fun q hq e => by
      have := nIn_ne (hin (q + 1) (by omega))
      rw [wayZ, e, huc] at this
      exact this rfl
    have hnear := dp_near (m := (m : Int)) hp hc hpc hD hDn hz hin hn
    exact bad (hin 0 (Nat.zero_le _)) hnear (by omega)
set_option linter.unusedVariables false
set_option linter.unusedSimpArgs false
set_option maxRecDepth 8000

def icK (ns : List PN) (z y a3 : Int) : Int :=
  if (y == z || unV ns z y) = true then 2
  else if (upZ ns y != 0 || !rnB a3 0 (ndAt ns z).kids.length) = true then 3
  else if (ndAt ns z).meas = true then 6
  else if 4 < dpV ns z + hF ns 4 y then 7 else 0
theorem up_ne_nil (t : Nat) (w : World) : (binOp .neq 84 (.pointer (some ⟨t, 0, none⟩)) (.pointer none)).run Try.prog w = .ok (.bool true) w := by
  have h : ∀ d : Nat, (Op.equalIn (d + 1) 84 (.pointer (some ⟨t, 0, none⟩)) (.pointer none)).run Try.prog w = .ok false w := fun d => by
    simp [Op.equalIn, run_underlying Try.underlying84]
  simp only [binOp]
  simp [Op.equal, Op.maxDepth, h 9999]
theorem up_nil (w : World) : (binOp .neq 84 (.pointer none) (.pointer none)).run Try.prog w = .ok (.bool false) w := by
  have h : ∀ d : Nat, (Op.equalIn (d + 1) 84 (.pointer none) (.pointer none)).run Try.prog w = .ok true w := fun d => by
    simp [Op.equalIn, run_underlying Try.underlying84]
  simp only [binOp]
  simp [Op.equal, Op.maxDepth, h 9999]
set_option maxHeartbeats 4000000 in
theorem iinsertcode (G b off p c cap : Nat) (ns : List PN) (a3 : Int) (w : World) (hL : Linked w G b off (linksOf ns)) (hT : treeB ns = true) (hp : p < ns.length) (hc : c < ns.length) (hN : NodeAt w b (off + p * 64) ns[p]) (ha : I64 a3) :
    Calls Try.prog 65 #[.slice (some ⟨G, 0, none⟩) ns.length cap, .pointer (some ⟨G + 1 + p, 0, none⟩), .pointer (some ⟨G + 1 + c, 0, none⟩), .int .i64 a3] w fun e w' => e = .returned (.int .i64 (icK ns ((p : Int) + 1) ((c : Int) + 1) a3)) ∧ w' = w := by
  have hlen := treeB_len hT
  have hnl : ns.length ≤ 1048576 := by omega
  have hpi : nIn ns.length ((p : Int) + 1) = true := nIn_iff.2 ⟨by omega, by omega⟩
  have hci : nIn ns.length ((c : Int) + 1) = true := nIn_iff.2 ⟨by omega, by omega⟩
  have hpp : PtrTo w G ns.length ((p : Int) + 1) (.pointer (some ⟨G + 1 + p, 0, none⟩)) := ⟨_, rfl, Or.inl ⟨hpi, by omega⟩⟩
  have hcp : PtrTo w G ns.length ((c : Int) + 1) (.pointer (some ⟨G + 1 + c, 0, none⟩)) := ⟨_, rfl, Or.inl ⟨hci, by omega⟩⟩
  have hks : ∀ n ∈ ns, n.kids.length ≤ 1048576 := fun n hn => by
    obtain ⟨i, hi, rfl⟩ := List.getElem_of_mem hn
    have := kids_few hT hi
    omega
  have KU := Lib.hid (iisunderP G b off cap ns ((p : Int) + 1) ((c : Int) + 1) _ (G + 1 + c) w hL hnl hpp hcp (fun h => by rw [hci] at h; cases h))
  have KR := Lib.hid (irng a3 0 ns[p].kids.length w)
  have KD := Lib.hid (idepthof G b off cap ns ((p : Int) + 1) _ w hL hnl hpp)
  obtain ⟨dc, hdc, hdc1, hdc4⟩ := dep_of hT hci
  have KH := Lib.hid (iheight G b off ns w hL hks 4 (by omega) ((c : Int) + 1) (G + 1 + c) hcp (hOk_of hT 4 dc _ hci hdc (by omega)))
  obtain ⟨dP, hdP, hdP1, hdP4⟩ := dep_of hT hpi
  have hdV := dpV_of hdP
  have hHF := hF_le ns 4 ((c : Int) + 1)
  have hkd : (ndAt ns ((p : Int) + 1)).kids = ns[p].kids := by rw [ndAt_nat hp]
  have hmd : (ndAt ns ((p : Int) + 1)).meas = ns[p].meas := by rw [ndAt_nat hp]
  have hud : upZ ns ((c : Int) + 1) = ns[c].up := by unfold upZ; rw [ndAt_nat hc]
  have hKK : icK ns ((p : Int) + 1) ((c : Int) + 1) a3 = if ((c : Int) + 1 == (p : Int) + 1 || unV ns ((p : Int) + 1) ((c : Int) + 1)) = true then 2 else if (ns[c].up != 0 || !rnB a3 0 ns[p].kids.length) = true then 3 else if ns[p].meas = true then 6 else if 4 < dpV ns ((p : Int) + 1) + hF ns 4 ((c : Int) + 1) then 7 else 0 := by unfold icK; rw [hkd, hmd, hud]
  obtain ⟨lp, p', upp, kvp, epp, _, hlp, hbp, _, hkp⟩ := hL.at (z := (p : Int) + 1) (by rw [linksOf_len]; exact hpi)
  obtain rfl : p' = p := by omega
  rw [links_at hp] at hlp
  cases hlp
  obtain ⟨lc, c', upv, kvc, ecc, _, hlc, hbc, hupc, _⟩ := hL.at (z := (c : Int) + 1) (by rw [linksOf_len]; exact hci)
  obtain rfl : c' = c := by omega
  rw [links_at hc] at hlc
  cases hlc
  obtain ⟨va, vc, evk, -⟩ := hkp.at
  subst evk
  have heq := lk_eql (G + 1 + p') (G + 1 + c') w _ _ hbp hbc
  have c1 : w.cell? ⟨G + 1 + p', 1, none⟩ = some (.pointer (some ⟨b, off + p' * 64, none⟩)) := (Go.Joins.cell_of_block hbp 1).trans rfl
  have c3 : w.cell? ⟨G + 1 + p', 3, none⟩ = some (.slice va ns[p'].kids.length vc) := (Go.Joins.cell_of_block hbp 3).trans rfl
  have c2 : w.cell? ⟨G + 1 + c', 2, none⟩ = some upv := (Go.Joins.cell_of_block hbc 2).trans rfl
  obtain ⟨kv, tv, hrg, -, -⟩ := hN
  have cm : w.cell? ⟨b, off + p' * 64 + 62, none⟩ = some (.bool ns[p'].meas) := hrg 62 _ nL_meas
  clear hL hT hpi hci hpp hcp hks hdc hdP hkd hmd hud hbp hkp hbc hrg epp ecc
  have HK := Lib.hid hKK
  clear hKK
  have hdv0 : 1 ≤ dpV ns ((p' : Int) + 1) ∧ dpV ns ((p' : Int) + 1) ≤ 4 := by omega
  clear hdV
  obtain ⟨DV, eDV⟩ : ∃ q, q = dpV ns ((p' : Int) + 1) := ⟨_, rfl⟩
  obtain ⟨HV, eHV⟩ : ∃ q, q = hF ns 4 ((c' : Int) + 1) := ⟨_, rfl⟩
  rw [← eDV] at KD HK hdv0
  rw [← eHV] at KH HK hHF
  have hsum : IntKind.i64.wrap (DV + HV) = DV + HV := IntWalk.i64_in _ (by omega)
  clear eDV eHV
  generalize icK ns ((p' : Int) + 1) ((c' : Int) + 1) a3 = K at *
  generalize unV ns ((p' : Int) + 1) ((c' : Int) + 1) = un at *
  obtain ⟨rg, erg⟩ : ∃ q, q = rnB a3 0 ns[p'].kids.length := ⟨_, rfl⟩
  rw [← erg] at KR HK
  obtain ⟨mz, emz⟩ : ∃ q, q = ns[p'].meas := ⟨_, rfl⟩
  rw [← emz] at cm HK
  obtain ⟨uv, euv⟩ : ∃ q, q = ns[c'].up := ⟨_, rfl⟩
  rw [← euv] at hupc HK
  clear erg emz euv
  by_cases hpc : p' = c'
  · subst hpc
    have hK : K = 2 := by rw [HK.out, if_pos (by simp)]
    simp only [decide_true] at heq
    clear HK
    rw [hK]
    go_enter Try.func65, Try.ntmps65
    go_wp2_with (first
      | (go_at_call 84; refine (KU.out).mono ?_; rintro e w1 ⟨rfl, rfl⟩)
      | (go_at_call 76; refine (KR.out).mono ?_; rintro e w1 ⟨rfl, rfl⟩)
      | (go_at_call 77; refine (KD.out).mono ?_; rintro e w1 ⟨rfl, rfl⟩)
      | (go_at_call 108; refine (KH.out).mono ?_; rintro e w1 ⟨rfl, rfl⟩)
      | fail)
    go_ret
    exact ⟨rfl, rfl⟩
  · have hne : ((c' : Int) + 1 == (p' : Int) + 1) = false := by simp; omega
    have hd : decide (G + 1 + p' = G + 1 + c') = false := by simp; omega
    rw [hd] at heq
    rw [hne, Bool.false_or] at HK
    clear hne hd
    cases un
    case true =>
      have hK : K = 2 := by rw [HK.out]; rfl
      clear HK
      rw [hK]
      go_enter Try.func65, Try.ntmps65
      go_wp2_with (first
        | (go_at_call 84; refine (KU.out).mono ?_; rintro e w1 ⟨rfl, rfl⟩)
        | (go_at_call 76; refine (KR.out).mono ?_; rintro e w1 ⟨rfl, rfl⟩)
        | (go_at_call 77; refine (KD.out).mono ?_; rintro e w1 ⟨rfl, rfl⟩)
        | (go_at_call 108; refine (KH.out).mono ?_; rintro e w1 ⟨rfl, rfl⟩)
        | fail)
      go_ret
      exact ⟨rfl, rfl⟩
    case false =>
      rw [if_neg Bool.false_ne_true] at HK
      by_cases hu : uv = 0
      · subst hu
        unfold UpP at hupc
        rw [if_pos rfl] at hupc
        subst hupc
        have hnil := up_nil w
        cases rg
        case false =>
          have hK : K = 3 := by rw [HK.out]; rfl
          clear HK
          rw [hK]
          go_enter Try.func65, Try.ntmps65
          go_wp2_with (first
            | (go_at_call 84; refine (KU.out).mono ?_; rintro e w1 ⟨rfl, rfl⟩)
            | (go_at_call 76; refine (KR.out).mono ?_; rintro e w1 ⟨rfl, rfl⟩)
            | (go_at_call 77; refine (KD.out).mono ?_; rintro e w1 ⟨rfl, rfl⟩)
            | (go_at_call 108; refine (KH.out).mono ?_; rintro e w1 ⟨rfl, rfl⟩)
            | fail)
          go_ret
          exact ⟨rfl, rfl⟩
        case true =>
          cases mz
          case true =>
            have hK : K = 6 := by rw [HK.out]; rfl
            clear HK
            rw [hK]
            go_enter Try.func65, Try.ntmps65
            go_wp2_with (first
              | (go_at_call 84; refine (KU.out).mono ?_; rintro e w1 ⟨rfl, rfl⟩)
              | (go_at_call 76; refine (KR.out).mono ?_; rintro e w1 ⟨rfl, rfl⟩)
              | (go_at_call 77; refine (KD.out).mono ?_; rintro e w1 ⟨rfl, rfl⟩)
              | (go_at_call 108; refine (KH.out).mono ?_; rintro e w1 ⟨rfl, rfl⟩)
              | fail)
            go_ret
            exact ⟨rfl, rfl⟩
          case false =>
            by_cases hle : 4 < DV + HV
            · have hK : K = 7 := by rw [HK.out, if_pos hle]; rfl
              clear HK
              rw [hK]
              go_enter Try.func65, Try.ntmps65
              go_wp2_with (first
                | (go_at_call 84; refine (KU.out).mono ?_; rintro e w1 ⟨rfl, rfl⟩)
                | (go_at_call 76; refine (KR.out).mono ?_; rintro e w1 ⟨rfl, rfl⟩)
                | (go_at_call 77; refine (KD.out).mono ?_; rintro e w1 ⟨rfl, rfl⟩)
                | (go_at_call 108; refine (KH.out).mono ?_; rintro e w1 ⟨rfl, rfl⟩)
                | fail)
              go_ret
              exact ⟨rfl, rfl⟩
            · have hK : K = 0 := by rw [HK.out, if_neg hle]; rfl
              clear HK
              rw [hK]
              go_enter Try.func65, Try.ntmps65
              go_wp2_with (first
                | (go_at_call 84; refine (KU.out).mono ?_; rintro e w1 ⟨rfl, rfl⟩)
                | (go_at_call 76; refine (KR.out).mono ?_; rintro e w1 ⟨rfl, rfl⟩)
                | (go_at_call 77; refine (KD.out).mono ?_; rintro e w1 ⟨rfl, rfl⟩)
                | (go_at_call 108; refine (KH.out).mono ?_; rintro e w1 ⟨rfl, rfl⟩)
                | fail)
              go_ret
              exact ⟨rfl, rfl⟩
      · unfold UpP at hupc
        rw [if_neg hu] at hupc
        obtain ⟨s, rfl, -⟩ := hupc
        have hK : K = 3 := by rw [HK.out, if_pos (by simp [hu])]
        have hnil := up_ne_nil s w
        clear HK
        rw [hK]
        go_enter Try.func65, Try.ntmps65
        go_wp2_with (first
          | (go_at_call 84; refine (KU.out).mono ?_; rintro e w1 ⟨rfl, rfl⟩)
          | (go_at_call 76; refine (KR.out).mono ?_; rintro e w1 ⟨rfl, rfl⟩)
          | (go_at_call 77; refine (KD.out).mono ?_; rintro e w1 ⟨rfl, rfl⟩)
          | (go_at_call 108; refine (KH.out).mono ?_; rintro e w1 ⟨rfl, rfl⟩)
          | fail)
        go_ret
        exact ⟨rfl, rfl⟩
theorem ik_of_icK {ns : List PN} {p c : Nat} {a3 : Int} (ht : treeB ns = true) (hp : p < ns.length) (hc : c < ns.length) :
    (icK ns ((p : Int) + 1) ((c : Int) + 1) a3 ≠ 0 → ikN ns ((p : Int) + 1) ((c : Int) + 1) a3 = ns ∧ ikC ns ((p : Int) + 1) ((c : Int) + 1) a3 = icK ns ((p : Int) + 1) ((c : Int) + 1) a3) ∧
    (icK ns ((p : Int) + 1) ((c : Int) + 1) a3 = 0 → ikN ns ((p : Int) + 1) ((c : Int) + 1) a3 = insSet ns ((p : Int) + 1) ((c : Int) + 1) a3 ∧ ikC ns ((p : Int) + 1) ((c : Int) + 1) a3 = 0 ∧ p ≠ c ∧ ∃ m : Nat, a3 = (m : Int) ∧ m ≤ ns[p].kids.length) := by
  have hpi : nIn ns.length ((p : Int) + 1) = true := nIn_iff.2 ⟨by omega, by omega⟩
  have hci : nIn ns.length ((c : Int) + 1) = true := nIn_iff.2 ⟨by omega, by omega⟩
  have hrm : rmB ns ((p : Int) + 1) ((c : Int) + 1) = true := by unfold rmB; rw [ht, hpi, hci]; rfl
  have hpre : ikPre ns ((p : Int) + 1) ((c : Int) + 1) a3 = if ((c : Int) + 1 == (p : Int) + 1 || unV ns ((p : Int) + 1) ((c : Int) + 1)) = true then 2 else if (upZ ns ((c : Int) + 1) != 0 || !rnB a3 0 (ndAt ns ((p : Int) + 1)).kids.length) = true then 3 else if (ndAt ns ((p : Int) + 1)).meas = true then 6 else 0 := by unfold ikPre; rw [if_pos hrm]
  by_cases h1 : ((c : Int) + 1 == (p : Int) + 1 || unV ns ((p : Int) + 1) ((c : Int) + 1)) = true
  · rw [if_pos h1] at hpre
    have hk : icK ns ((p : Int) + 1) ((c : Int) + 1) a3 = 2 := by unfold icK; rw [if_pos h1]
    rw [hk]
    exact ⟨fun _ => ik_ref hpre (by decide), fun h => by cases h⟩
  · rw [if_neg h1] at hpre
    by_cases h2 : (upZ ns ((c : Int) + 1) != 0 || !rnB a3 0 (ndAt ns ((p : Int) + 1)).kids.length) = true
    · rw [if_pos h2] at hpre
      have hk : icK ns ((p : Int) + 1) ((c : Int) + 1) a3 = 3 := by unfold icK; rw [if_neg h1, if_pos h2]
      rw [hk]
      exact ⟨fun _ => ik_ref hpre (by decide), fun h => by cases h⟩
    · rw [if_neg h2] at hpre
      by_cases h3 : (ndAt ns ((p : Int) + 1)).meas = true
      · rw [if_pos h3] at hpre
        have hk : icK ns ((p : Int) + 1) ((c : Int) + 1) a3 = 6 := by unfold icK; rw [if_neg h1, if_neg h2, if_pos h3]
        rw [hk]
        exact ⟨fun _ => ik_ref hpre (by decide), fun h => by cases h⟩
      · rw [if_neg h3] at hpre
        obtain ⟨g1, g2⟩ := ik_go hpre
        simp only [Bool.or_eq_true, beq_iff_eq, not_or, Bool.not_eq_true] at h1
        simp only [Bool.or_eq_true, bne_iff_ne, ne_eq, Bool.not_eq_true', not_or, Decidable.not_not, Bool.not_eq_false] at h2
        have hpc : p ≠ c := fun e => h1.1 (by omega)
        have hu : ns[c].up = 0 := by have := h2.1; unfold upZ at this; rwa [ndAt_nat hc] at this
        have hm : ns[p].meas = false := by rw [ndAt_nat hp] at h3; simpa using h3
        have hr : 0 ≤ a3 ∧ a3 ≤ (ns[p].kids.length : Int) := by have := h2.2; rw [ndAt_nat hp] at this; unfold rnB at this; exact of_decide_eq_true this
        obtain ⟨m, rfl⟩ : ∃ m : Nat, a3 = (m : Int) := ⟨a3.toNat, by omega⟩
        have hI := ins_tree (m := m) ht hp hc hpc hu hm h1.2
        have hk : icK ns ((p : Int) + 1) ((c : Int) + 1) (m : Int) = if 4 < dpV ns ((p : Int) + 1) + hF ns 4 ((c : Int) + 1) then 7 else 0 := by
          unfold icK
          rw [if_neg (by simp only [Bool.or_eq_true, beq_iff_eq, not_or, Bool.not_eq_true]; exact h1), if_neg (by simp only [Bool.or_eq_true, bne_iff_ne, ne_eq, Bool.not_eq_true', not_or, Decidable.not_not, Bool.not_eq_false]; exact h2), if_neg h3]
        rw [hk]
        by_cases hle : dpV ns ((p : Int) + 1) + hF ns 4 ((c : Int) + 1) ≤ 4
        · rw [decide_eq_true hle] at hI
          rw [hI, if_pos rfl] at g1 g2
          rw [if_neg (by omega)]
          exact ⟨fun h => absurd rfl h, fun _ => ⟨g1, g2, hpc, m, rfl, by omega⟩⟩
        · rw [decide_eq_false hle] at hI
          rw [hI, if_neg Bool.false_ne_true] at g1 g2
          rw [if_pos (by omega)]
          exact ⟨fun _ => ⟨g1, g2⟩, fun h => by cases h⟩
theorem ik_bad {ns : List PN} {z y a3 : Int} (h : (treeB ns && nIn ns.length z && nIn ns.length y) = false) : ikN ns z y a3 = ns ∧ ikC ns z y a3 = 1 :=
  ik_ref (by unfold ikPre rmB; rw [h, if_neg Bool.false_ne_true]) (by decide)
theorem ins_relink {ns : List PN} {p c t : Nat} (hp : p < ns.length) (hc : c < ns.length) (hpc : p ≠ c) :
    relink ns (insLk (linksOf ns) p c t (ns[p].up, ns[p].kids) (ns[c].up, ns[c].kids)) = insSet ns ((p : Int) + 1) ((c : Int) + 1) (t : Int) := by
  have hl : (linksOf ns).length = ns.length := linksOf_len ns
  apply List.ext_getElem?
  intro i
  by_cases hi : i < ns.length
  · rw [insSet_at hp hc hpc hi]
    unfold relink insLk insN
    rw [List.getElem?_zipWith, List.getElem?_set, List.getElem?_set, List.getElem?_eq_getElem hi]
    by_cases ic : c = i
    · subst ic
      rw [if_pos rfl, if_pos (by simp [hl]; exact hc), if_pos rfl, if_neg (Ne.symm hpc)]
    · rw [if_neg ic, if_neg (Ne.symm ic)]
      by_cases ip : p = i
      · subst ip
        rw [if_pos rfl, if_pos (by rw [hl]; exact hp), if_pos rfl]
      · rw [if_neg ip, if_neg (Ne.symm ip), links_at hi]
  · rw [List.getElem?_eq_none (by rw [relink_len (by simp [insLk, hl])]; omega), List.getElem?_eq_none (by rw [insSet_len]; omega)]
theorem ins_in {n p c t : Nat} {ls : List (Int × List Int)} {lp lc : Int × List Int} (h : LinkIn n ls) (hp : ls[p]? = some lp) (hc : ls[c]? = some lc) (hpn : p < n) (hcn : c < n) (hk : lp.2.length ≤ 1000000) (ht : t ≤ lp.2.length) : LinkIn n (insLk ls p c t lp lc) := fun l hl => by
  have h1 := h lp (List.mem_of_getElem? hp)
  have h2 := h lc (List.mem_of_getElem? hc)
  unfold insLk at hl
  rcases List.mem_or_eq_of_mem_set hl with hl | rfl
  · rcases List.mem_or_eq_of_mem_set hl with hl | rfl
    · exact h l hl
    · refine ⟨h1.1, fun z hz => ?_, ?_⟩
      · rcases ins_mem hz with rfl | hz
        · exact nIn_iff.2 ⟨by omega, by omega⟩
        · exact h1.2.1 z hz
      · show (insL lp.2 ((c : Int) + 1) (t : Int)).length ≤ 1048576
        rw [insL_len ht]
        omega
  · exact ⟨Or.inr (nIn_iff.2 ⟨by omega, by omega⟩), h2.2⟩
set_option maxHeartbeats 4000000 in
theorem iinsertkid (a : Option Addr) (cap : Nat) (ns : List PN) (z y a3 : Int) (w : World) (hz : Nds w a ns) (hl : szS ns ≤ 1048576) (hz0 : I64 z) (hy0 : I64 y) (ha0 : I64 a3) :
    Calls Try.prog 14 #[.agg #[.slice a ns.length cap], .int .i64 z, .int .i64 y, .int .i64 a3] w (ChPost (ikN ns z y a3) (ikC ns z y a3) w) := by
  have bb := Go.Joins.below_alloc2 w (.cells #[.slice a ns.length cap] 26) (.cells #[.slice none 0 0] 26)
  have h0 := hp_on (hp_new w (.cells #[.slice a ns.length cap] 26)) (.cells #[.slice none 0 0] 26)
  have h6 := hp_new (w.alloc (.cells #[.slice a ns.length cap] 26)) (.cells #[.slice none 0 0] 26)
  simp only [World.size_alloc] at h6
  obtain ⟨u, eu⟩ : ∃ u, u = ((w.alloc (.cells #[.slice a ns.length cap] 26)).alloc (.cells #[.slice none 0 0] 26)) := ⟨_, rfl⟩
  rw [← eu] at bb h0 h6
  have EU := Lib.hid eu
  have HZ := Lib.hid hz
  have HK0 := Lib.hid (fun w' (h : Nds w' a ns) (x : Int) => ihasnode a cap ns x w' h hl)
  have c0 : u.cell? ⟨w.heap.size, 0, none⟩ = some (.slice a ns.length cap) := (Go.Joins.cell_of_block h0 0).trans rfl
  clear hz eu
  by_cases hb1 : (nIn ns.length z && treeB ns) = true
  · obtain ⟨hN1, hT⟩ := Bool.and_eq_true_iff.1 hb1
    by_cases hN2 : nIn ns.length y = true
    · have hb2 : (nIn ns.length y && treeB ns) = true := by rw [hN2, hT]; rfl
      have HB1 := Lib.hid hb1
      have HB2 := Lib.hid hb2
      clear hb1 hb2
      obtain ⟨A, eA⟩ : ∃ A, A = ikN ns z y a3 := ⟨_, rfl⟩
      obtain ⟨C, eC⟩ : ∃ C : Int, C = ikC ns z y a3 := ⟨_, rfl⟩
      rw [← eA, ← eC]
      have EA := Lib.hid eA
      have EC := Lib.hid eC
      clear eA eC
      have h1 := nIn_iff.1 hN1
      have h2 := nIn_iff.1 hN2
      obtain ⟨p, hzp, hp⟩ : ∃ p : Nat, z = (p : Int) + 1 ∧ p < ns.length := ⟨(z - 1).toNat, by omega, by omega⟩
      obtain ⟨c, hyc, hc⟩ : ∃ c : Nat, y = (c : Int) + 1 ∧ c < ns.length := ⟨(y - 1).toNat, by omega, by omega⟩
      have hnl : ns.length ≤ 1048576 := by unfold szS at hl; omega
      obtain ⟨b, off, ha⟩ := HZ.out.place
      have HA := Lib.hid ha
      subst hzp hyc
      have HT := Lib.hid hT
      have HN1 := Lib.hid hN1
      have HN2 := Lib.hid hN2
      clear hT hN1 hN2 h1 h2 ha
      go_enter Try.func14, Try.ntmps14
      go_wp2_with (rw [← EU.out])
      clear c0
      refine (HK0.out _ (HZ.out.below bb) _).mono ?_
      rintro e w1 ⟨rfl, b1⟩
      rw [HB1.out]
      replace h0 := hp_below h0 b1
      replace h6 := hp_below h6 b1
      replace bb := bb.trans (b1.mono bb.size)
      clear b1
      have c0 := c_of h0
      (try dsimp only)
      go_wp2_with (fail)
      clear c0
      refine (HK0.out _ (HZ.out.below bb) _).mono ?_
      rintro e w2 ⟨rfl, b2⟩
      rw [HB2.out]
      replace h0 := hp_below h0 b2
      replace h6 := hp_below h6 b2
      replace bb := bb.trans (b2.mono bb.size)
      clear b2
      have c0 := c_of h0
      (try dsimp only)
      go_wp2_with (fail)
      clear c0
      refine (ilinkedof a cap b off ns _ (HZ.out.below bb) hl HA.out).mono ?_
      rintro e w3 ⟨rfl, hL, b3⟩
      have hlt := hp_lt h6
      have hG : w.heap.size + 1 < w2.heap.size + 1 := by omega
      have hGw : w.heap.size ≤ w2.heap.size + 1 := by omega
      replace h0 := hp_below h0 b3
      replace h6 := hp_below h6 b3
      replace bb := bb.trans (b3.mono bb.size)
      generalize w2.heap.size + 1 = G at *
      have H1 := Lib.hid hL
      clear b3 hL hlt
      (try dsimp only)
      go_wp2_with (fail)
      have KAT := Lib.hid (fun k (hk : k < ns.length) => iat_in G ns.length ns.length k w3 hk (by have := H1.out.1; rwa [linksOf_len] at this) (by have := H1.out.2.1; rwa [linksOf_len] at this) hnl)
      refine (KAT.out p hp).mono ?_
      rintro e w4 ⟨rfl, rfl⟩
      (try dsimp only)
      go_wp2_with (fail)
      refine (KAT.out c hc).mono ?_
      rintro e w5 ⟨rfl, rfl⟩
      clear KAT
      have hszn : ∀ n ∈ ns, n.kids.length ≤ 12 ∧ n.rl ≤ 6 := fun n hn => by
        obtain ⟨i, hi, rfl⟩ := List.getElem_of_mem hn
        exact ⟨kids_few HT.out hi, rl_few HT.out hi⟩
      have hNd0 : ∀ (wx : World), Nds wx a ns → ∀ (i : Nat) (n : PN), ns[i]? = some n → NodeAt wx b (off + i * 64) n ∧ n.ok ∧ n.rl ≤ 1048576 := fun wx hz6 i n hi => by
        have hmn := List.mem_of_getElem? hi
        refine ⟨?_, hz6.1 n hmn, by have := (hszn n hmn).2; omega⟩
        rcases hz6.2 with e | ⟨b', off', e, _, hN⟩
        · rw [e] at hmn; cases hmn
        · rcases HA.out with e2 | e2
          · rw [e2] at hmn; cases hmn
          · rw [e] at e2
            simp only [Option.some.injEq, Addr.mk.injEq, and_true] at e2
            obtain ⟨rfl, rfl⟩ := e2
            exact hN i n hi
      have HND := Lib.hid hNd0
      have KIC := Lib.hid (iinsertcode G b off p c ns.length ns a3 w5 H1.out HT.out hp hc (hNd0 w5 (HZ.out.below bb) p ns[p] (List.getElem?_eq_getElem hp)).1 ha0)
      have HSZ := Lib.hid hszn
      clear hNd0 hszn
      have hK := ik_of_icK (a3 := a3) HT.out hp hc
      obtain ⟨K, eK⟩ : ∃ q, q = icK ns ((p : Int) + 1) ((c : Int) + 1) a3 := ⟨_, rfl⟩
      rw [← eK] at hK KIC
      have HK := Lib.hid hK
      clear hK eK
      (try dsimp only)
      go_wp2_with (fail)
      refine (KIC.out).mono ?_
      rintro e w6 ⟨rfl, rfl⟩
      clear KIC
      by_cases k0 : K = 0
      · obtain ⟨hA, hC, hpc, m, rfl, hml⟩ := HK.out.2 k0
        have ea := EA.out.trans hA
        have ec := EC.out.trans hC
        subst ea ec k0
        clear hA hC HK EA EC
        (try dsimp only)
        go_wp2_with (fail)
        refine (iinsert G b off p c m (linksOf ns) (ns[p].up, ns[p].kids) (ns[c].up, ns[c].kids) w6 H1.out (links_at hp) (links_at hc) hpc hml (by have := (HSZ.out _ (List.getElem_mem hp)).1; show ns[p].kids.length ≤ 1048576; omega)).mono ?_
        rintro e w7 ⟨⟨r, rfl⟩, hL6, b6⟩
        replace h6 := hp_bl h6 hG b6
        replace bb := bb.trans (b6.mono hGw)
        have hrel := ins_relink (t := m) hp hc hpc
        have H6 := Lib.hid hL6
        clear b6 hL6 h0
        (try dsimp only)
        go_wp2_with (fail)
        refine (itree G b off ns.length _ ns w7 H6.out (by simp [insLk, linksOf_len]) (HND.out w7 (HZ.out.below bb)) (ins_in (link_in HT.out (fun n hn => by have := (HSZ.out n hn).1; omega)) (links_at hp) (links_at hc) hp hc (by have := (HSZ.out _ (List.getElem_mem hp)).1; show ns[p].kids.length ≤ 1000000; omega) hml) hnl).mono ?_
        rintro e w9 ⟨v, ms, hms, rfl, ho, b3⟩
        rw [hrel] at hms
        obtain ⟨av, cv, rfl⟩ := own_form ho.1
        have hlt := hp_lt h6
        have hS := bb.size
        replace h6 := hp_below h6 b3
        have D := Lib.hid (rk_done h6 ho hlt (bb.trans (b3.mono hS)))
        have c6 := c_of h6
        have f6 := Go.Joins.unfrozen_of_block h6 0
        clear ho b3 bb hS h6
        (try dsimp only)
        go_wp2_with (fail)
        obtain ⟨zc, D1, D2⟩ := D.out
        obtain ⟨w10, ew10⟩ : ∃ q, q = w9.setCell ⟨w.heap.size + 1, 0, none⟩ (.slice av ms.length cv) := ⟨_, rfl⟩
        rw [← ew10] at zc D1 D2 ⊢
        exact bodyPost_ret (v := .tuple #[.agg #[.slice av ms.length cv], .int .i64 0]) (by simp [results, Try.results14, go_sem, zc]) rfl ⟨_, ms, hms, rfl, D1, D2⟩
      · obtain ⟨hA, hC⟩ := HK.out.1 k0
        have ea := EA.out.trans hA
        have ec := EC.out.trans hC
        replace ea := ea.symm
        subst ea ec
        clear hA hC HK EA EC
        have c0 := c_of h0
        have k1 : (C != 0) = true := by simpa using k0
        (try dsimp only)
        go_wp2_with (fail)
        clear c0
        refine (itrcopy a cap ns _ (HZ.out.below bb) hl).mono ?_
        rintro e w9 ⟨v, ms, hms, rfl, ho, b3⟩
        obtain ⟨av, cv, rfl⟩ := own_form ho.1
        have hlt := hp_lt h6
        have hS := bb.size
        replace h6 := hp_below h6 b3
        have D := Lib.hid (rk_done h6 ho hlt (bb.trans (b3.mono hS)))
        have c6 := c_of h6
        have f6 := Go.Joins.unfrozen_of_block h6 0
        clear ho b3 bb h0 hS h6
        (try dsimp only)
        go_wp2_with (fail)
        obtain ⟨zc, D1, D2⟩ := D.out
        obtain ⟨w10, ew10⟩ : ∃ q, q = w9.setCell ⟨w.heap.size + 1, 0, none⟩ (.slice av ms.length cv) := ⟨_, rfl⟩
        rw [← ew10] at zc D1 D2 ⊢
        exact bodyPost_ret (v := .tuple #[.agg #[.slice av ms.length cv], .int .i64 C]) (by simp [results, Try.results14, go_sem, zc]) rfl ⟨_, ms, hms, rfl, D1, D2⟩
    · have hN2' : nIn ns.length y = false := by simpa using hN2
      have hf : (treeB ns && nIn ns.length z && nIn ns.length y) = false := by rw [hN2', Bool.and_false]
      have hb2' : (nIn ns.length y && treeB ns) = false := by rw [hN2', Bool.false_and]
      obtain ⟨hv, hc⟩ := ik_bad hf (a3 := a3)
      rw [hv, hc]
      have HB1 := Lib.hid hb1
      have HB2 := Lib.hid hb2'
      clear hv hc hb1 hb2' hf hN2 hN2' hN1 hT
      go_enter Try.func14, Try.ntmps14
      go_wp2_with (rw [← EU.out])
      clear c0
      refine (HK0.out _ (HZ.out.below bb) _).mono ?_
      rintro e w1 ⟨rfl, b1⟩
      rw [HB1.out]
      replace h0 := hp_below h0 b1
      replace h6 := hp_below h6 b1
      replace bb := bb.trans (b1.mono bb.size)
      clear b1
      have c0 := c_of h0
      (try dsimp only)
      go_wp2_with (fail)
      clear c0
      refine (HK0.out _ (HZ.out.below bb) _).mono ?_
      rintro e w2 ⟨rfl, b2⟩
      rw [HB2.out]
      replace h0 := hp_below h0 b2
      replace h6 := hp_below h6 b2
      replace bb := bb.trans (b2.mono bb.size)
      clear b2
      have c0 := c_of h0
      (try dsimp only)
      go_wp2_with (fail)
      clear c0
      refine (itrcopy a cap ns _ (HZ.out.below bb) hl).mono ?_
      rintro e w3 ⟨v, ms, hms, rfl, ho, b3⟩
      obtain ⟨av, cv, rfl⟩ := own_form ho.1
      have hlt := hp_lt h6
      have hS := bb.size
      replace h6 := hp_below h6 b3
      have D := Lib.hid (rk_done h6 ho hlt (bb.trans (b3.mono hS)))
      have c6 := c_of h6
      have f6 := Go.Joins.unfrozen_of_block h6 0
      clear ho b3 bb h0 hS h6
      (try dsimp only)
      go_wp2_with (fail)
      obtain ⟨zc, D1, D2⟩ := D.out
      obtain ⟨w5, ew5⟩ : ∃ q, q = w3.setCell ⟨w.heap.size + 1, 0, none⟩ (.slice av ms.length cv) := ⟨_, rfl⟩
      rw [← ew5] at zc D1 D2 ⊢
      exact bodyPost_ret (v := .tuple #[.agg #[.slice av ms.length cv], .int .i64 1]) (by simp [results, Try.results14, go_sem, zc]) rfl ⟨_, ms, hms, rfl, D1, D2⟩
  · have hb1' : (nIn ns.length z && treeB ns) = false := by simpa using hb1
    have hf : (treeB ns && nIn ns.length z && nIn ns.length y) = false := by rw [Bool.and_comm (treeB ns), hb1', Bool.false_and]
    obtain ⟨hv, hc⟩ := ik_bad hf (a3 := a3)
    rw [hv, hc]
    have HB1 := Lib.hid hb1'
    clear hv hc hb1 hb1' hf
    go_enter Try.func14, Try.ntmps14
    go_wp2_with (rw [← EU.out])
    clear c0
    refine (HK0.out _ (HZ.out.below bb) _).mono ?_
    rintro e w1 ⟨rfl, b1⟩
    rw [HB1.out]
    replace h0 := hp_below h0 b1
    replace h6 := hp_below h6 b1
    replace bb := bb.trans (b1.mono bb.size)
    clear b1
    have c0 := c_of h0
    (try dsimp only)
    go_wp2_with (fail)
    clear c0
    refine (itrcopy a cap ns _ (HZ.out.below bb) hl).mono ?_
    rintro e w3 ⟨v, ms, hms, rfl, ho, b3⟩
    obtain ⟨av, cv, rfl⟩ := own_form ho.1
    have hlt := hp_lt h6
    have hS := bb.size
    replace h6 := hp_below h6 b3
    have D := Lib.hid (rk_done h6 ho hlt (bb.trans (b3.mono hS)))
    have c6 := c_of h6
    have f6 := Go.Joins.unfrozen_of_block h6 0
    clear ho b3 bb h0 hS h6
    (try dsimp only)
    go_wp2_with (fail)
    obtain ⟨zc, D1, D2⟩ := D.out
    obtain ⟨w5, ew5⟩ : ∃ q, q = w3.setCell ⟨w.heap.size + 1, 0, none⟩ (.slice av ms.length cv) := ⟨_, rfl⟩
    rw [← ew5] at zc D1 D2 ⊢
    exact bodyPost_ret (v := .tuple #[.agg #[.slice av ms.length cv], .int .i64 1]) (by simp [results, Try.results14, go_sem, zc]) rfl ⟨_, ms, hms, rfl, D1, D2⟩
end Go.Proofs.Ytckpjldenkjddaa
end
