/-
  Contracts of kind.Find and kind.Name: the op of a name, and an op's name.
-/
import Derived.Test.YtmaooljlkpfkoaaIt1
import Derived.Deep.RegionHeld
namespace Go.Proofs.Ytmaooljlkpfkoaa
open Go.RowKit Go.Shelf Go.Lib
attribute [local go_sem] Oper.semAt_some

def isNm (s : ByteArray) (k : Nat) : Bool := (bsOf (Tab.nmL k)).toList == s.toList
def findN (s : ByteArray) : Nat := ((told 98).find? (isNm s)).getD 0
theorem find_none {s : ByteArray} {pre : List Nat} {k : Nat} (h : pre.find? (isNm s) = none) (hk : isNm s k = false) : (pre ++ [k]).find? (isNm s) = none := by
  rw [List.find?_append, h]; simp [hk]
theorem find_hit {s : ByteArray} {pre : List Nat} {k : Nat} (h : pre.find? (isNm s) = none) (hk : isNm s k = true) : (pre ++ [k]).find? (isNm s) = some k := by
  rw [List.find?_append, h]; simp [hk]
theorem told_prefix (m : Nat) (hm : m < 98) : told (m + 1) <+: told 98 := by
  unfold told
  have : List.range (m + 1) <+: List.range 98 := by
    rw [List.prefix_iff_eq_take, List.length_range, List.take_range, Nat.min_eq_left (by omega)]
  exact this.map _
theorem find_full {p : Nat → Bool} {m k : Nat} (hm : m < 98) (h : (told (m + 1)).find? p = some k) : (told 98).find? p = some k := by
  obtain ⟨t, ht⟩ := told_prefix m hm
  rw [← ht, List.find?_append, h]; rfl
theorem box_new (W : World) (v : Value) (t : TypeId) : (W.alloc (.cells #[v] t)).cell? ⟨W.heap.size, 0, none⟩ = some v ∧ (W.alloc (.cells #[v] t)).frozen? ⟨W.heap.size, 0, none⟩ = false := by
  constructor <;> simp
theorem box_on {W : World} {a : Addr} {v : Value} (o : Obj) (h : W.cell? a = some v ∧ W.frozen? a = false) : (W.alloc o).cell? a = some v ∧ (W.alloc o).frozen? a = false :=
  ⟨cell_kept h.1 (World.grownBy_alloc W o none) (fun r e => by cases e), (frozen_kept h.1 (World.grownBy_alloc W o none) (fun r e => by cases e)).trans h.2⟩

theorem all_in (F : Fence) (n : Nat) (hF : F.fn 18) (hro : F.round = none) (w : World) :
    CallsIn F n Try.prog 18 #[] w fun e w' => e = .returned (.func (.func 22) #[] #[]) ∧ w = w' := by
  refine callsIn_of_wp Try.func18 rfl hF ?_ hro
  simp only [Try.ntmps18, List.size_toArray, List.length_nil, Nat.reduceSub, Array.replicate_succ, Array.replicate_zero, List.push_toArray, List.append_toArray, List.nil_append]
  gi_wp2
  go_ret
  exact ⟨rfl, rfl⟩

set_option maxRecDepth 100000 in
set_option maxHeartbeats 2000000 in
theorem find_in (F : Fence) (n : Nat) (hf : F.fn 8) (ha : F.fn 18) (h1' : F.fn 22) (hro : F.round = none) (hn : 3 ≤ n) (s : ByteArray) (w : World) :
    CallsIn F n Try.prog 8 #[.string s] w fun e w' => e = .returned (.tuple #[.int .i64 (findN s : Nat), .bool (findN s != 0)]) ∧ Below w.heap.size w w' := by
  have h1 : 1 ≤ n := by omega
  refine callsIn_of_wp_marks Try.func8 rfl hf ?_ hro
  simp only [Try.ntmps8, List.size_toArray, List.length_cons, List.length_nil, Nat.reduceAdd, Nat.reduceSub, Array.replicate_succ, Array.replicate_zero, List.push_toArray, List.append_toArray, List.nil_append, List.cons_append]
  gi_wp2_with (gi_at_call 18; refine (all_in F (n - 1) ha hro _).mono ?_; rintro e w' ⟨rfl, rfl⟩)
  have c0 := box_new w (.string s) 9
  have c1 := box_new (w.alloc (.cells #[.string s] 9)) (.int .i64 0) 25
  have c2 := box_new ((w.alloc (.cells #[.string s] 9)).alloc (.cells #[.int .i64 0] 25)) (.bool false) 4
  simp only [World.size_alloc] at c1 c2
  have hB0 : Below w.heap.size w (((w.alloc (.cells #[.string s] 9)).alloc (.cells #[.int .i64 0] 25)).alloc (.cells #[.bool false] 4)) := (((Below.refl _ w).alloc (Nat.le_refl _) _).alloc (by simp) _).alloc (by simp; omega) _
  refine wpIn_rangeFunc_ownF hro h1 (gf := 22) (lb := #[]) rfl h1' (enters_of Try.func22 (by kernel_rfl) rfl)
    (all1_stops F (n - 1) h1' hro (by omega) _) walksK_t walksK_b (Below.refl _ _) (fun _ => rfl)
    (fun pre W => (pre.find? (isNm s) = none ∧ W.cell? ⟨w.heap.size, 0, none⟩ = some (.string s) ∧ (W.cell? ⟨w.heap.size + 1, 0, none⟩ = some (.int .i64 0) ∧ W.frozen? ⟨w.heap.size + 1, 0, none⟩ = false) ∧ W.cell? ⟨w.heap.size + 1 + 1, 0, none⟩ = some (.bool false) ∧ W.frozen? ⟨w.heap.size + 1 + 1, 0, none⟩ = false) ∧ Below w.heap.size w W)
    (fun c pre W => (c = .ret ∧ ∃ k : Nat, (pre.find? (isNm s) = some k ∧ k ∈ pre) ∧ W.cell? ⟨w.heap.size + 1, 0, none⟩ = some (.int .i64 k) ∧ W.cell? ⟨w.heap.size + 1 + 1, 0, none⟩ = some (.bool true)) ∧ Below w.heap.size w W)
    (OwnFrom.and (Own.from (fun p A B row hs hg hr => ⟨hs.1, cell_kept hs.2.1 hg hr, ⟨cell_kept hs.2.2.1.1 hg hr, (frozen_kept hs.2.2.1.1 hg hr).trans hs.2.2.1.2⟩, cell_kept hs.2.2.2.1 hg hr, (frozen_kept hs.2.2.2.1 hg hr).trans hs.2.2.2.2⟩) _) (ownFrom_below (Nat.le_refl _) (by simp; omega)))
    (fun c => OwnFrom.and (Own.from (fun p A B row hs hg hr => by obtain ⟨hc, k, hk, h1, h2⟩ := hs; exact ⟨hc, k, hk, cell_kept h1 hg hr, cell_kept h2 hg hr⟩) _) (ownFrom_below (Nat.le_refl _) (by simp; omega)))
    ⟨⟨rfl, (box_on _ (box_on _ c0)).1, box_on _ c1, c2.1, c2.2⟩, hB0⟩
    (fun x => { tmps := #[.string s, .pointer (some ⟨w.heap.size, 0, none⟩), .pointer (some ⟨w.heap.size + 1, 0, none⟩), .pointer (some ⟨w.heap.size + 1 + 1, 0, none⟩), .int .i64 x, strV (Tab.nmL x), .func (.func 22) #[] #[], .int .i64 x, strV (Tab.nmL x), undef, undef, undef, undef], defers := [] }) ?assign ?body ?done ?stop
  case assign =>
    intro l x W K hK
    gi_wp2
    exact hK
  case body =>
    rintro l pre x W ⟨⟨hp, hcs, ⟨hco, hfo⟩, hcb, hfb⟩, hB⟩ _
    gi_wp2
    · rename_i hx
      refine ⟨(KeepsOthers.setCell _ _ _).trans (KeepsOthers.setCell _ _ _), ⟨rfl, x, ⟨find_hit hp hx, by simp⟩, ?_, ?_⟩, (hB.setCell (p := ⟨w.heap.size + 1, 0, none⟩) (by simp) _).setCell (p := ⟨w.heap.size + 1 + 1, 0, none⟩) (by simp; omega) _⟩
      · rw [World.cell?_setCell_far _ _ _ _ (by simp)]
        exact World.cell?_setCell_same' _ _ _ (by rw [hco]; rfl)
      · refine World.cell?_setCell_same' _ _ _ ?_
        rw [World.cell?_setCell_far _ _ _ _ (by simp), hcb]; rfl
    · rename_i hx
      exact ⟨KeepsOthers.refl _, KeepsWalks.refl _, ⟨find_none hp (by unfold isNm; simpa using hx), hcs, ⟨hco, hfo⟩, hcb, hfb⟩, hB⟩
  case done =>
    rintro D ys W hD rfl ⟨⟨hne, _, ⟨hco, hfo⟩, hcb, hfb⟩, hB⟩ hK
    gi_wp2
    have k0 := (KeepsOthers.setCell W ⟨w.heap.size + 1, 0, none⟩ (.int .i64 0)).trans (KeepsOthers.setCell _ ⟨w.heap.size + 1 + 1, 0, none⟩ (.bool false))
    have hK' := k0.same D _ hK rfl
    refine ⟨by simp, .inl ⟨_, _, rfl, run_takeDeferred hK', ?_⟩⟩
    have d1 : ((W.setCell ⟨w.heap.size + 1, 0, none⟩ (.int .i64 0)).setCell ⟨w.heap.size + 1 + 1, 0, none⟩ (.bool false)).cell? ⟨w.heap.size + 1, 0, none⟩ = some (.int .i64 0) := by
      rw [World.cell?_setCell_far _ _ _ _ (by simp)]
      exact World.cell?_setCell_same' _ _ _ (by rw [hco]; rfl)
    have d2 : ((W.setCell ⟨w.heap.size + 1, 0, none⟩ (.int .i64 0)).setCell ⟨w.heap.size + 1 + 1, 0, none⟩ (.bool false)).cell? ⟨w.heap.size + 1 + 1, 0, none⟩ = some (.bool false) := by
      refine World.cell?_setCell_same' _ _ _ ?_
      rw [World.cell?_setCell_far _ _ _ _ (by simp), hcb]; rfl
    have e1 := cell_kept d1 (grownBy_putObj' _ D (.deferred none)) (fun r e => by cases e; exact ⟨_, hK', rfl⟩)
    have e2 := cell_kept d2 (grownBy_putObj' _ D (.deferred none)) (fun r e => by cases e; exact ⟨_, hK', rfl⟩)
    have hz : findN s = 0 := by unfold findN; rw [hne]; rfl
    refine ⟨.tuple #[.int .i64 0, .bool false], ?_, by rw [hz]; rfl, ((hB.setCell (p := ⟨w.heap.size + 1, 0, none⟩) (by simp) _).setCell (p := ⟨w.heap.size + 1 + 1, 0, none⟩) (by simp; omega) _).trans (belowK_b (w := w) (Nat.le_refl _) _ D _ _ (by simp at hD; omega) hK' rfl rfl)⟩
    simp [results, Try.f8, go_sem, e1, e2]
  case stop =>
    rintro D c pre W hD ⟨m, hm, rfl⟩ ⟨⟨rfl, k, ⟨hk, hk'⟩, hco, hcb⟩, hB⟩ hK
    gi_wp2
    refine ⟨by simp, .inl ⟨_, _, rfl, run_takeDeferred hK, ?_⟩⟩
    have e1 := cell_kept hco (grownBy_putObj' _ D (.deferred none)) (fun r e => by cases e; exact ⟨_, hK, rfl⟩)
    have e2 := cell_kept hcb (grownBy_putObj' _ D (.deferred none)) (fun r e => by cases e; exact ⟨_, hK, rfl⟩)
    have hz : findN s = k := by unfold findN; rw [find_full hm hk]; rfl
    have hk0 : (k != 0) = true := by
      obtain ⟨j, -, rfl⟩ := List.mem_map.1 hk'
      simp
    refine ⟨.tuple #[.int .i64 k, .bool true], ?_, by rw [hz, hk0], hB.trans (belowK_b (w := w) (Nat.le_refl _) W D _ _ (by simp at hD; omega) hK rfl rfl)⟩
    simp [results, Try.f8, go_sem, e1, e2]
theorem find_c (s : ByteArray) (w : World) : Calls Try.prog 8 #[.string s] w fun e w' => e = .returned (.tuple #[.int .i64 (findN s : Nat), .bool (findN s != 0)]) ∧ Below w.heap.size w w' :=
  (callsIn_wide (n := 3)).1 (find_in Fence.wide 3 trivial trivial trivial rfl (by decide) s w)

/-- An op's name; of what is no op: none. -/
def nameB (op : Int) : ByteArray := if 1 ≤ op ∧ op ≤ 98 then bsOf (Tab.nmL op.toNat) else bsOf []
theorem told_find (m : Nat) (op : Int) : (told m).find? (fun k => ((k : Nat) : Int) == op) = if 1 ≤ op ∧ op ≤ m then some op.toNat else none := by
  induction m with
  | zero => rw [if_neg (by omega)]; rfl
  | succ m ih =>
    rw [told_succ, List.find?_append, ih]
    by_cases h : 1 ≤ op ∧ op ≤ m
    · rw [if_pos h, if_pos (by omega)]; rfl
    · rw [if_neg h]
      by_cases h2 : ((m + 1 : Nat) : Int) = op
      · rw [if_pos (by omega)]
        simp only [List.find?_cons, h2, beq_self_eq_true, Option.none_or]
        congr 1; omega
      · rw [if_neg (by omega)]
        have : (((m + 1 : Nat) : Int) == op) = false := by simpa using h2
        simp only [List.find?_cons, List.find?_nil, this, Option.none_or]
set_option maxRecDepth 100000 in
set_option maxHeartbeats 2000000 in
theorem name_in (F : Fence) (n : Nat) (hf : F.fn 9) (ha : F.fn 18) (h1' : F.fn 22) (hro : F.round = none) (hn : 3 ≤ n) (op : Int) (w : World) :
    CallsIn F n Try.prog 9 #[.int .i64 op] w fun e w' => e = .returned (.string (nameB op)) ∧ Below w.heap.size w w' := by
  have h1 : 1 ≤ n := by omega
  have HF := Lib.hid (told_find 98 op)
  refine callsIn_of_wp_marks Try.func9 rfl hf ?_ hro
  simp only [Try.ntmps9, List.size_toArray, List.length_cons, List.length_nil, Nat.reduceAdd, Nat.reduceSub, Array.replicate_succ, Array.replicate_zero, List.push_toArray, List.append_toArray, List.nil_append, List.cons_append]
  gi_wp2_with (gi_at_call 18; refine (all_in F (n - 1) ha hro _).mono ?_; rintro e w' ⟨rfl, rfl⟩)
  have c0 := box_new w (.int .i64 op) 25
  have c1 := box_new (w.alloc (.cells #[.int .i64 op] 25)) (.string ⟨#[]⟩) 9
  simp only [World.size_alloc] at c1
  have hB0 : Below w.heap.size w ((w.alloc (.cells #[.int .i64 op] 25)).alloc (.cells #[.string ⟨#[]⟩] 9)) := ((Below.refl _ w).alloc (Nat.le_refl _) _).alloc (by simp) _
  refine wpIn_rangeFunc_ownF hro h1 (gf := 22) (lb := #[]) rfl h1' (enters_of Try.func22 (by kernel_rfl) rfl)
    (all1_stops F (n - 1) h1' hro (by omega) _) walksK_t walksK_b (Below.refl _ _) (fun _ => rfl)
    (fun pre W => (pre.find? (fun k => ((k : Nat) : Int) == op) = none ∧ W.cell? ⟨w.heap.size, 0, none⟩ = some (.int .i64 op) ∧ W.cell? ⟨w.heap.size + 1, 0, none⟩ = some (.string ⟨#[]⟩) ∧ W.frozen? ⟨w.heap.size + 1, 0, none⟩ = false) ∧ Below w.heap.size w W)
    (fun c pre W => (c = .ret ∧ ∃ k : Nat, pre.find? (fun k => ((k : Nat) : Int) == op) = some k ∧ W.cell? ⟨w.heap.size + 1, 0, none⟩ = some (strV (Tab.nmL k))) ∧ Below w.heap.size w W)
    (OwnFrom.and (Own.from (fun p A B row hs hg hr => ⟨hs.1, cell_kept hs.2.1 hg hr, cell_kept hs.2.2.1 hg hr, (frozen_kept hs.2.2.1 hg hr).trans hs.2.2.2⟩) _) (ownFrom_below (Nat.le_refl _) (by simp; omega)))
    (fun c => OwnFrom.and (Own.from (fun p A B row hs hg hr => by obtain ⟨hc, k, hk, h1⟩ := hs; exact ⟨hc, k, hk, cell_kept h1 hg hr⟩) _) (ownFrom_below (Nat.le_refl _) (by simp; omega)))
    ⟨⟨rfl, (box_on _ c0).1, c1.1, c1.2⟩, hB0⟩
    (fun x => { tmps := #[.int .i64 op, .pointer (some ⟨w.heap.size, 0, none⟩), .pointer (some ⟨w.heap.size + 1, 0, none⟩), .int .i64 x, strV (Tab.nmL x), .func (.func 22) #[] #[], .int .i64 x, strV (Tab.nmL x), undef, undef, undef, undef], defers := [] }) ?assign ?body ?done ?stop
  case assign =>
    intro l x W K hK
    gi_wp2
    exact hK
  case body =>
    rintro l pre x W ⟨⟨hp, hcs, hcb, hfb⟩, hB⟩ _
    gi_wp2
    · rename_i hx
      refine ⟨KeepsOthers.setCell _ _ _, ⟨rfl, x, ?_, ?_⟩, hB.setCell (p := ⟨w.heap.size + 1, 0, none⟩) (by simp) _⟩
      · rw [List.find?_append, hp]; simp only [List.find?_cons, Option.none_or, hx]
      · exact World.cell?_setCell_same' _ _ _ (by rw [hcb]; rfl)
    · rename_i hx
      refine ⟨KeepsOthers.refl _, KeepsWalks.refl _, ⟨?_, hcs, hcb, hfb⟩, hB⟩
      have hx' : (((x : Nat) : Int) == op) = false := by simpa using hx
      rw [List.find?_append, hp]; simp only [List.find?_cons, List.find?_nil, Option.none_or, hx']
  case done =>
    rintro D ys W hD rfl ⟨⟨hne, _, hcb, hfb⟩, hB⟩ hK
    gi_wp2
    have hK' := (KeepsOthers.setCell W ⟨w.heap.size + 1, 0, none⟩ (.string ⟨#[]⟩)).same D _ hK rfl
    refine ⟨by simp, .inl ⟨_, _, rfl, run_takeDeferred hK', ?_⟩⟩
    have e1 := cell_kept (World.cell?_setCell_same' W ⟨w.heap.size + 1, 0, none⟩ (.string ⟨#[]⟩) (by rw [hcb]; rfl)) (grownBy_putObj' _ D (.deferred none)) (fun r e => by cases e; exact ⟨_, hK', rfl⟩)
    have hz : nameB op = ⟨#[]⟩ := by
      rw [HF.out] at hne
      unfold nameB
      by_cases h : 1 ≤ op ∧ op ≤ 98
      · rw [if_pos (by omega)] at hne; cases hne
      · rw [if_neg h]; rfl
    refine ⟨.string ⟨#[]⟩, ?_, by rw [hz], (hB.setCell (p := ⟨w.heap.size + 1, 0, none⟩) (by simp) _).trans (belowK_b (w := w) (Nat.le_refl _) _ D _ _ (by simp at hD; omega) hK' rfl rfl)⟩
    simp [results, Try.f9, go_sem, e1]
  case stop =>
    rintro D c pre W hD ⟨m, hm, rfl⟩ ⟨⟨rfl, k, hk, hcb⟩, hB⟩ hK
    gi_wp2
    refine ⟨by simp, .inl ⟨_, _, rfl, run_takeDeferred hK, ?_⟩⟩
    have e1 := cell_kept hcb (grownBy_putObj' _ D (.deferred none)) (fun r e => by cases e; exact ⟨_, hK, rfl⟩)
    have hz : nameB op = bsOf (Tab.nmL k) := by
      have := find_full hm hk
      rw [HF.out] at this
      unfold nameB
      by_cases h : 1 ≤ op ∧ op ≤ 98
      · rw [if_pos (by omega)] at this; rw [if_pos h]; cases this; rfl
      · rw [if_neg (by omega)] at this; cases this
    refine ⟨.string (bsOf (Tab.nmL k)), ?_, by rw [hz], hB.trans (belowK_b (w := w) (Nat.le_refl _) W D _ _ (by simp at hD; omega) hK rfl rfl)⟩
    simp [results, Try.f9, go_sem, e1]
theorem name_c (op : Int) (w : World) : Calls Try.prog 9 #[.int .i64 op] w fun e w' => e = .returned (.string (nameB op)) ∧ Below w.heap.size w w' :=
  (callsIn_wide (n := 3)).1 (name_in Fence.wide 3 trivial trivial trivial rfl (by decide) op w)
end Go.Proofs.Ytmaooljlkpfkoaa
