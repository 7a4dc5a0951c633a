/-
  Slices of bytes: what stands in them, and contracts of slices.Delete (the first one of them), Clone, Equal. A port in memory; contracts of uart's latched, looped, why, receive, take, tellCause, tellLine. An element more at the end of a slice that a call owns: its cells stay in their block, or lie in the newest one.
-/
import Derived.Test.YtfjdalepaacmgaaGreatYab
import Derived.Test.YtfjdalepaacmgaaGreatYac
import Derived.Lib.SliceRun
import Derived.BigRegion
import Derived.Test.YtfjdalepaacmgaaGreatYah
import Derived.Deep.MidRow
import Derived.Maps.AppendAt
set_option maxRecDepth 20000
namespace Go.Proofs.YtfjdalepaacmgaaGreat
open Go.ChangeShapes Go.WideShapes Go.ChangeAt Go.RowKit

/-- Between two worlds only blocks of S have changed; others may have been made. -/
structure Chg (S : Nat → Prop) (w w' : World) : Prop where
  os : w'.os = w.os
  tape : w'.tape = w.tape
  output : w'.output = w.output
  size : w.heap.size ≤ w'.heap.size
  block : ∀ k, k < w.heap.size → ¬ S k → w'.heap[k]? = w.heap[k]?
section
variable {S T : Nat → Prop} {u v w w' : World} {b : Nat}
theorem Chg.refl (S : Nat → Prop) (w : World) : Chg S w w := ⟨rfl, rfl, rfl, Nat.le_refl _, fun _ _ _ => rfl⟩
theorem Chg.trans (h : Chg S u v) (k : Chg S v w) : Chg S u w :=
  ⟨k.os.trans h.os, k.tape.trans h.tape, k.output.trans h.output, Nat.le_trans h.size k.size, fun i hi hs => (k.block i (Nat.lt_of_lt_of_le hi h.size) hs).trans (h.block i hi hs)⟩
/-- The second one may change what the first one made. -/
theorem Chg.transN (h : Chg S u v) (k : Chg T v w) (hT : ∀ i, T i → S i ∨ u.heap.size ≤ i) : Chg S u w :=
  ⟨k.os.trans h.os, k.tape.trans h.tape, k.output.trans h.output, Nat.le_trans h.size k.size, fun i hi hs => (k.block i (Nat.lt_of_lt_of_le hi h.size) (fun ht => (hT i ht).elim hs (fun hl => by omega))).trans (h.block i hi hs)⟩
theorem Chg.mono (h : Chg S u v) (hT : ∀ i, S i → T i) : Chg T u v := ⟨h.os, h.tape, h.output, h.size, fun k hk hs => h.block k hk (fun a => hs (hT k a))⟩
theorem Chg.of_below (h : Below w.heap.size w w') : Chg S w w' := ⟨h.os, h.tape, h.output, h.size, fun k hk _ => h.block k hk⟩
theorem Chg.of_cell (hb : S b) (i : Nat) (x : Value) : Chg S w (w.setCell ⟨b, i, none⟩ x) := ⟨rfl, rfl, rfl, by simp, fun k _ hs => heap_setCell_other w ⟨b, i, none⟩ k x (fun e => hs (e ▸ hb))⟩
theorem Chg.of_row (hb : S b) (cs : Array Value) : Chg S w (w.setRow b cs) := ⟨rfl, rfl, rfl, by simp, fun k _ hs => setRow_other w b k cs (fun e => hs (e ▸ hb))⟩
theorem Chg.of_grown {r : Option Nat} (h : w.grownBy w' r) (hr : ∀ k, r = some k → S k) : Chg S w w' := ⟨h.os, h.tape, h.output, h.size, fun k hk hs => h.block k hk (fun e => hs (hr k e.symm))⟩
theorem Chg.below (h : Chg S w w') {N : Nat} (hN : N ≤ w.heap.size) (hS : ∀ k, S k → N ≤ k) : Below N w w' := ⟨h.os, h.tape, h.output, h.size, fun k hk => h.block k (by omega) (fun hs => by have := hS k hs; omega)⟩
theorem Chg.cs {t : TypeId} {cs : Array Value} (h : Chg S w w') (hc : CsAt w b t cs) (hb : ¬ S b) : CsAt w' b t cs := (h.block b hc.lt hb).trans hc
theorem Chg.cell (h : Chg S w w') {p : Addr} {x : Value} (hc : w.cell? p = some x) (hb : ¬ S p.block) : w'.cell? p = some x :=
  (World.cell?_of_block (w := w) (h.block p.block (World.block_lt_of_cell? _ _ hc) hb)).trans hc
theorem Chg.drewN (n : Nat) : Chg S w (w.drewN n) := Chg.of_below ⟨rfl, rfl, rfl, Nat.le_refl _, fun _ _ => rfl⟩
theorem Chg.own {base : Nat} {e : TypeId} {size : Nat} {x : Value} {n : Nat} {xs : List Value} (h : Chg S w w') (ho : w.ownsRow base e size x n xs) (hb : ∀ k, x.ownBlock = some k → ¬ S k) : w'.ownsRow base e size x n xs := by
  refine ⟨ho.1, ho.2.imp id ?_⟩
  rintro ⟨g, cap, cur, rfl, h1, h2, h3⟩
  exact ⟨g, cap, cur, rfl, h1, (h.block g (Array.getElem?_eq_some_iff.1 h2).1 (hb g rfl)).trans h2, h3⟩
end
/-- The cells of bytes. -/
def u8V (xs : List Int) : List Value := xs.map (Value.int .u8)
theorem u8V_len (xs : List Int) : (u8V xs).length = xs.length := List.length_map _
theorem u8V_at (xs : List Int) (j : Nat) (h : j < xs.length) : (u8V xs)[j]? = some (.int .u8 (xs.getD j 0)) := by
  rw [u8V, List.getElem?_map, List.getD, List.getElem?_eq_getElem h]
  rfl
theorem u8V_one (xs : List Int) : ∀ u ∈ u8V xs, u.oneCell' = true := fun u hu => by
  obtain ⟨x, -, rfl⟩ := List.mem_map.1 hu
  rfl
/-- A slice of bytes that can be read. -/
def VwB (w : World) (v : Value) (xs : List Int) : Prop := ∃ p cap, v = .slice p xs.length cap ∧ (xs = [] ∨ ∃ b off, p = some ⟨b, off, none⟩ ∧ b < w.heap.size ∧ ∀ j, j < xs.length → w.cell? ⟨b, off + j, none⟩ = some (.int .u8 (xs.getD j 0)))
theorem VwB.low {w w' : World} {v : Value} {xs : List Int} (h : VwB w v xs) (hb : Below w.heap.size w w') : VwB w' v xs := by
  obtain ⟨p, cap, rfl, h⟩ := h
  refine ⟨p, cap, rfl, h.imp id ?_⟩
  rintro ⟨b, off, rfl, hlt, hc⟩
  exact ⟨b, off, rfl, Nat.lt_of_lt_of_le hlt hb.size, fun j hj => (hb.cell (p := ⟨b, off + j, none⟩) hlt).trans (hc j hj)⟩
theorem own_vwB {w : World} {base : Nat} {e : TypeId} {v : Value} {xs : List Int} (h : w.ownsRow base e 1 v xs.length (u8V xs)) : VwB w v xs := by
  obtain ⟨p, cap, rfl, hv, h1, h2⟩ := own_form h
  refine ⟨p, cap, rfl, ?_⟩
  rcases hv with hv | ⟨b, off, rfl, hlt, hc⟩
  · left
    have := congrArg List.length hv
    rw [u8V_len] at this
    exact List.length_eq_zero_iff.1 this
  · exact .inr ⟨b, off, rfl, hlt, fun j hj => hc j _ (u8V_at xs j hj)⟩
theorem VwB.vw {w : World} {p : Option Addr} {n cap : Nat} {xs : List Int} (h : VwB w (.slice p n cap) xs) : Vw w p (u8V xs) := by
  obtain ⟨p', cap', e, h⟩ := h
  simp only [Value.slice.injEq] at e
  obtain ⟨rfl, rfl, rfl⟩ := e
  rcases h with rfl | ⟨b, off, rfl, hlt, hc⟩
  · exact .inl rfl
  · refine .inr ⟨b, off, rfl, hlt, fun j u hj => ?_⟩
    have hl : j < xs.length := by
      have := (List.getElem?_eq_some_iff.1 hj).1
      rwa [u8V_len] at this
    rw [hc j hl, ← hj, u8V_at xs j hl]
theorem info_u8 : (Tryz.prog.info? 5).map (fun i => (i.zero, i.size, i.bytes)) = some (some (.int .u8 0), 1, 1) := by kernel_rfl
theorem zv_u8 (w : World) : (zeroValue 5).run Tryz.prog w = .ok (.int .u8 0) w := by
  have h : (Tryz.prog.info? 5).map (·.zero) = some (some (.int .u8 0)) := by kernel_rfl
  obtain ⟨i, hi, hz⟩ := Option.map_eq_some_iff.1 h
  simp [zeroValue, typeInfo, hi, hz]
theorem below_dU {B : Nat} {a w : World} (h : Below B a w) (n : Nat) : Below B a (w.drewN n) := h.trans ⟨rfl, rfl, rfl, Nat.le_refl _, fun _ _ => rfl⟩

/-! Clone. -/
theorem b_not_nil (a : Addr) (n c : Nat) (w : World) : (binOp .eql 49 (.slice (some a) n c) (.slice none 0 0)).run Tryz.prog w = .ok (.bool false) w := by kernel_rfl
theorem b_is_nil (w : World) : (binOp .eql 49 (.slice none 0 0) (.slice none 0 0)).run Tryz.prog w = .ok (.bool true) w := by kernel_rfl
set_option maxHeartbeats 1000000 in
theorem bclone_none (w : World) : Calls Tryz.prog 95 #[.slice none 0 0] w fun e w' => e = .returned (.slice none 0 0) ∧ w = w' := by
  have hq := b_is_nil
  go_enter Tryz.func95, Tryz.ntmps95
  go_wp2_with fail
  go_ret
  exact ⟨rfl, rfl⟩
set_option maxHeartbeats 1000000 in
theorem bclone_some (ad : Addr) (cap : Nat) (xs : List Int) (w : World) (hv : Vw w (some ad) (u8V xs)) (hl : xs.length ≤ 900000) :
    Calls Tryz.prog 95 #[.slice (some ad) xs.length cap] w fun e w' => ∃ v, e = .returned v ∧ w'.ownsRow w.heap.size 5 1 v xs.length (u8V xs) ∧ Below w.heap.size w w' := by
  have HV := Lib.hid (hv.low ((Below.refl w.heap.size w).alloc (Nat.le_refl _) (.cells #[] 5)))
  have HO := Lib.hid (show (w.alloc (.cells #[] 5)).ownsRow w.heap.size 5 1 (.slice (some ⟨w.heap.size, 0, none⟩) 0 0) 0 [] from
    ⟨rfl, .inr ⟨w.heap.size, 0, #[], rfl, Nat.le_refl _, CsAt.new w 5 #[], Nat.le_refl _, Nat.zero_le _, rfl, rfl⟩⟩)
  have HB := Lib.hid ((Below.refl w.heap.size w).alloc (Nat.le_refl _) (.cells #[] 5))
  have hq := b_not_nil ad xs.length cap
  clear hv
  go_enter Tryz.func95, Tryz.ntmps95
  go_wp2_with (at_builtin; refine wpList_cat rfl _ _ 49 rfl w.heap.size 5 _ 1 1 Tryz.underlying49 info_u8 rfl (by omega) (by omega) _ 0 [] rfl HO.out _ xs.length cap (u8V xs) rfl HV.out (by simp [u8V_len]) (u8V_one xs) (by omega) HB.out.size ?_)
  intro v' w' hown hb
  have HW := Lib.hid (show w'.ownsRow w.heap.size 5 1 v' xs.length (u8V xs) by simpa using hown)
  have HB2 := Lib.hid (HB.out.trans hb)
  clear hown hb
  go_wp2_with fail
  go_ret
  exact ⟨_, rfl, HW.out, HB2.out⟩
/-- A slice that the port owns, cloned. -/
theorem bclone_c (base : Nat) (v : Value) (xs : List Int) (w : World) (ho : w.ownsRow base 5 1 v xs.length (u8V xs)) (hl : xs.length ≤ 900000) :
    Calls Tryz.prog 95 #[v] w fun e w' => ∃ v, e = .returned v ∧ w'.ownsRow w.heap.size 5 1 v xs.length (u8V xs) ∧ Below w.heap.size w w' := by
  have hf := own_vwB ho
  rcases ho.2 with ⟨rfl, h0⟩ | ⟨g, cap, cur, rfl, -⟩
  · obtain rfl : xs = [] := List.length_eq_zero_iff.1 h0
    refine (bclone_none w).mono ?_
    rintro e w' ⟨rfl, rfl⟩
    exact ⟨_, rfl, World.ownsRow_nil _ _ _ _, Below.refl _ _⟩
  · exact bclone_some _ cap xs w hf.vw hl

/-! Equal. -/
def eqB (xs ys : List Int) : Bool := decide (xs = ys)
theorem eqB_len {xs ys : List Int} (h : xs.length ≠ ys.length) : eqB xs ys = false := by
  unfold eqB
  simp only [decide_eq_false_iff_not]
  exact fun e => h (by rw [e])
theorem eqB_yes {xs ys : List Int} (h : xs.length = ys.length) (ha : ∀ i, i < xs.length → xs.getD i 0 = ys.getD i 0) : eqB xs ys = true := by
  unfold eqB
  simp only [decide_eq_true_eq]
  refine List.ext_getElem h fun i h1 h2 => ?_
  have := ha i h1
  simpa [List.getD, List.getElem?_eq_getElem h1, List.getElem?_eq_getElem h2] using this
theorem eqB_no {xs ys : List Int} {k : Nat} (hn : xs.getD k 0 ≠ ys.getD k 0) : eqB xs ys = false := by
  unfold eqB
  simp only [decide_eq_false_iff_not]
  exact fun e => hn (by rw [e])
set_option maxHeartbeats 4000000 in
theorem bequal_c (u v : Value) (xs ys : List Int) (w : World) (hu : VwB w u xs) (hv : VwB w v ys) (hl : xs.length ≤ 1000000) :
    Calls Tryz.prog 79 #[u, v] w fun e w' => e = .returned (.bool (eqB xs ys)) ∧ Below w.heap.size w w' := by
  obtain ⟨p, cp, rfl, hu⟩ := hu
  obtain ⟨q, cq, rfl, hv⟩ := hv
  by_cases hn : xs.length = ys.length
  · have HP := Lib.hid hu
    have HQ := Lib.hid hv
    have HN := Lib.hid hn
    rw [← hn] at HQ ⊢
    clear hu hv hn
    go_enter Tryz.func79, Tryz.ntmps79
    go_wp2_with fail
    go_loopw [13] (fun i wr => ∃ k : Nat, k ≤ xs.length ∧ i = .int .i64 k ∧ (∀ j, j < k → xs.getD j 0 = ys.getD j 0) ∧ Below w.heap.size w wr) (fun i _ => xs.length - (intOf i).toNat)
    case atStart => exact ⟨0, Nat.zero_le _, rfl, fun j hj => by omega, Below.refl _ _⟩
    case round =>
      obtain ⟨k, hk, rfl, hd, hb⟩ := hrel
      have HD := Lib.hid hd
      have HB := Lib.hid hb
      clear hd hb
      by_cases hlt : k < xs.length
      · have hne : ¬ xs = [] := fun e => by rw [e] at hlt; simp at hlt
        have hne2 : ¬ ys = [] := fun e => by have h := HN.out; have h2 := congrArg List.length e; simp only [List.length_nil] at h2; omega
        obtain ⟨b, o, rfl, hbl, hc⟩ := HP.out.resolve_left hne
        obtain ⟨b2, o2, rfl, hbl2, hc2⟩ := HQ.out.resolve_left hne2
        have c1 := (HB.out.cell (p := ⟨b, o + k, none⟩) hbl).trans (hc k hlt)
        have c2 := (HB.out.cell (p := ⟨b2, o2 + k, none⟩) hbl2).trans (hc2 k hlt)
        have g1 : (k : Int) < (xs.length : Int) := by omega
        have HD2 := Lib.hid (fun (e : xs.getD k 0 = ys.getD k 0) => show ∀ j, j < k + 1 → xs.getD j 0 = ys.getD j 0 from fun j hj => by
          by_cases ej : j = k
          · subst ej; exact e
          · exact HD.out j (by omega))
        clear hc hc2 hne hne2
        by_cases he : xs.getD k 0 = ys.getD k 0
        · have HD3 := Lib.hid (HD2.out he)
          have ge : (xs.getD k 0 != ys.getD k 0) = false := by simp; exact he
          generalize xs.getD k 0 = x at *
          generalize ys.getD k 0 = y at *
          clear HD HD2 he
          go_wp2_with fail
          go_quiet (fail)
          have HB3 := Lib.hid (below_dU HB.out nq)
          go_wp2_with fail
          go_roundw
          case rel => exact ⟨k + 1, by omega, by go_num, HD3.out, HB3.out⟩
          case measure => simp [intOf]; omega
        · have HE := Lib.hid (eqB_no he)
          have ge : (xs.getD k 0 != ys.getD k 0) = true := by simp; exact he
          generalize xs.getD k 0 = x at *
          generalize ys.getD k 0 = y at *
          clear HD HD2 he
          go_wp2_with fail
          go_quiet (fail)
          have HB3 := Lib.hid (below_dU HB.out nq)
          go_wp2_with fail
          go_ret
          exact ⟨by rw [HE.out]; rfl, HB3.out⟩
      · have HE := Lib.hid (eqB_yes HN.out (fun i hi => HD.out i (by omega)))
        have g1 : decide ((k : Int) < (xs.length : Int)) = false := by simp; omega
        clear HD
        go_wp2_with fail
        go_ret
        exact ⟨by rw [HE.out]; rfl, HB.out⟩
  · have HE := Lib.hid (eqB_len hn)
    rw [HE.out]
    have g0 : ((xs.length : Int) != (ys.length : Int)) = true := by simp; omega
    clear hu hv hn
    go_enter Tryz.func79, Tryz.ntmps79
    go_wp2_with fail
    go_ret
    exact ⟨rfl, Below.refl _ _⟩

/-! Delete of the first one. -/
/-- An append of which it is known what it leaves. -/
theorem wpList_appendK {P : Program} {ops : Array Oper} {rest : List Oper} {o : Oper} {a : Act} {w w' : World} {Q : Exit → Act → World → Prop} (hgd : o.guard = none) (s x : Operand) (t : TypeId)
    (ho : o.op = .call { callee := .builtin .append, args := #[s, x], argTypes := #[t, t] }) (u v r : Value) (hs : a.eval s = u) (hx : a.eval x = v) (hr : ∀ ty, (Builtin.append_ #[t, t] ty #[u, v]).run P w = .ok r w')
    (h : wpList P ops Q rest (a.put o.dst r) w') : wpList P ops Q (o :: rest) a w :=
  wpList_plain hgd fun _ hK => by
    unfold Oper.wp execOp
    simp only [ho, resolve, invoke, builtin, Sem.run_bind, Sem.run_pure, Result.andThen_ok, List.map_toArray, List.map_cons, List.map_nil, hs, hx, hr]
    exact hK _ _ h
set_option maxHeartbeats 4000000 in
theorem bdelete_c (g n cap : Nat) (x : Int) (xs : List Int) (hn : n = xs.length + 1) (w : World) (ho : w.ownsRow 0 5 1 (.slice (some ⟨g, 0, none⟩) n cap) n (u8V (x :: xs))) (hl : xs.length ≤ 900000) :
    Calls Tryz.prog 98 #[.slice (some ⟨g, 0, none⟩) n cap, .int .i64 0, .int .i64 1] w fun e w' =>
      e = .returned (.slice (some ⟨g, 0, none⟩) (n - 1) cap) ∧ w'.ownsRow 0 5 1 (.slice (some ⟨g, 0, none⟩) (n - 1) cap) (n - 1) (u8V xs) ∧ Chg (fun k => k = g) w w' := by
  obtain ⟨cur, hg, hcap, hmax, hsz, htk⟩ : ∃ cur, w.heap[g]? = some (.cells cur 5 (0, 0)) ∧ n ≤ cap ∧ cap ≤ maxLen ∧ cur.size = cap ∧ cur.toList.take n = u8V (x :: xs) := by
    rcases ho.2 with ⟨h, -⟩ | ⟨g', cap', cur, h, -, h2, h3, h4, h5, h6⟩
    · cases h
    · cases h
      exact ⟨cur, h2, h3, h4, by omega, by simpa using h6⟩
  have hcell : ∀ j u, (u8V xs)[j]? = some u → w.cell? ⟨g, 1 + j, none⟩ = some u := fun j u hj => by
    have hj' : j < xs.length := by
      have := (List.getElem?_eq_some_iff.1 hj).1
      rwa [u8V_len] at this
    rw [cell_of_row w g (1 + j) cur 5 _ hg, ← Array.getElem?_toList]
    have e := congrArg (fun l => l[1 + j]?) htk
    simp only [List.getElem?_take, if_pos (show 1 + j < n by omega)] at e
    rw [e, ← hj, u8V, List.map_cons, show 1 + j = j + 1 by omega, List.getElem?_cons_succ]
    rfl
  obtain ⟨i, hi, hz⟩ := Option.map_eq_some_iff.1 info_u8
  simp only [Prod.mk.injEq] at hz
  have n1 : 1 ≤ (n : Int) := by omega
  have n2 : 0 ≤ (n : Int) := by omega
  have HO := Lib.hid ho
  have HN := Lib.hid hn
  have HT := Lib.hid htk
  have HG := Lib.hid hg
  have HC := Lib.hid hcell
  clear ho hn htk hg hcell
  obtain ⟨row, hrow⟩ : ∃ row, row = (cur.toList.take (0 * i.size) ++ u8V xs ++ cur.toList.drop (0 * i.size + (u8V xs).length)).toArray := ⟨_, rfl⟩
  have hrl : row.size = cap := by
    have hN := HN.out
    rw [hrow]
    simp [u8V_len]
    omega
  have hrt : row.toList.take (n - 1) = u8V xs := by
    rw [hrow]
    simp only [Nat.zero_mul, List.take_zero, List.nil_append]
    exact List.take_left' (by rw [u8V_len, HN.out]; omega)
  have hfit : 0 * i.size + (u8V xs).length ≤ cur.size := by rw [u8V_len]; have := HN.out; omega
  have hln : (u8V xs).length = (n - 1) * i.size := by rw [u8V_len, hz.2.1, HN.out]; omega
  have hG2 : (w.drew.setRow g row).heap[g]? = some (.cells row 5 (0, 0)) := setRow_heap w.drew g cur _ _ _ HG.out
  have hcl : ∀ ty c2, (Builtin.clear_ #[49] ty #[.slice (some ⟨g, n - 1, none⟩) (n - (n - 1)) c2]).run Tryz.prog (w.drew.setRow g row) = .ok (.tuple #[]) ((w.drew.setRow g row).setCells g (n - 1) (List.replicate (n - (n - 1)) (.int .u8 0))) := fun ty c2 =>
    Lib.run_clear_slice _ _ _ ty _ Tryz.underlying49 zv_u8 rfl rfl g (n - 1) _ _ (by omega) (fun j hj => by rw [cell_of_row _ g _ row 5 _ hG2, Array.getElem?_eq_getElem (by have := HN.out; omega)]; rfl) (fun j hj => frozen_of_row _ g _ row _ hG2)
  have HE := Lib.hid (show ((w.drew.setRow g row).setCells g (n - 1) (List.replicate (n - (n - 1)) (.int .u8 0))).ownsRow 0 5 1 (.slice (some ⟨g, 0, none⟩) (n - 1) cap) (n - 1) (u8V xs) ∧ Chg (fun k => k = g) w ((w.drew.setRow g row).setCells g (n - 1) (List.replicate (n - (n - 1)) (.int .u8 0))) by
    have hN := HN.out
    rw [show n - (n - 1) = 1 by omega, List.replicate_one]
    show ((w.drew.setRow g row).setCell ⟨g, n - 1, none⟩ (.int .u8 0)).ownsRow _ _ _ _ _ _ ∧ Chg _ w ((w.drew.setRow g row).setCell ⟨g, n - 1, none⟩ (.int .u8 0))
    refine ⟨⟨by rw [u8V_len]; omega, .inr ⟨g, cap, row.setIfInBounds (n - 1) (.int .u8 0), rfl, Nat.zero_le _, heap_setCell_same _ g (n - 1) row _ _ hG2, by omega, hmax, by simp [hrl], ?_⟩⟩, ((Chg.drewN (S := fun k => k = g) 1).trans (Chg.of_row (S := fun k => k = g) (b := g) rfl row)).trans (Chg.of_cell (S := fun k => k = g) (b := g) rfl (n - 1) (.int .u8 0))⟩
    rw [Array.toList_setIfInBounds, List.take_set, List.set_eq_of_length_le (by rw [List.length_take]; omega), Nat.mul_one, hrt])
  have hap1 : cap ≠ 1 → ∀ ty, (Builtin.append_ #[49, 49] ty #[.slice (some ⟨g, 0, none⟩) 0 cap, .slice (some ⟨g, 1, none⟩) (n - 1) (cap - 1)]).run Tryz.prog w.drew = .ok (.slice (some ⟨g, 0, none⟩) (n - 1) cap) (w.drew.setRow g row) := fun _ ty => by
    have := run_append_room (P := Tryz.prog) w.drew 49 ty 5 i Tryz.underlying49 hi g 0 cap cur HG.out ⟨g, 1, none⟩ (n - 1) (cap - 1) (u8V xs) hln (fun j u hj => by rw [add_plain]; exact HC.out j u hj) (u8V_one xs) (by omega) hfit
    rw [← hrow, Nat.zero_add] at this
    exact this
  have hap0 : cap = 1 → ∀ ty, (Builtin.append_ #[49, 49] ty #[.slice (some ⟨g, 0, none⟩) 0 cap, .slice (some ⟨g, 0, none⟩) (n - 1) (cap - 1)]).run Tryz.prog w.drew = .ok (.slice (some ⟨g, 0, none⟩) (n - 1) cap) (w.drew.setRow g row) := fun h ty => by
    have hx : u8V xs = [] := List.length_eq_zero_iff.1 (by rw [u8V_len]; have := HN.out; omega)
    have := run_append_room (P := Tryz.prog) w.drew 49 ty 5 i Tryz.underlying49 hi g 0 cap cur HG.out ⟨g, 0, none⟩ (n - 1) (cap - 1) (u8V xs) hln (fun j u hj => by rw [hx] at hj; cases hj) (u8V_one xs) (by omega) hfit
    rw [← hrow, Nat.zero_add] at this
    exact this
  have n4 : ((n - 1 : Nat) : Int) ≤ (n : Int) := by omega
  have n5 : (n : Int) ≤ (cap : Int) := by omega
  by_cases hn1 : n = 1
  · subst hn1
    have hx : xs = [] := List.length_eq_zero_iff.1 (by have := HN.out; omega)
    subst hx
    have hcl1 : ∀ ty c2, (Builtin.clear_ #[49] ty #[.slice (some ⟨g, 0, none⟩) 1 c2]).run Tryz.prog w.drew = .ok (.tuple #[]) (w.drew.setCell ⟨g, 0, none⟩ (.int .u8 0)) := fun ty c2 =>
      Lib.run_clear_slice _ _ _ ty _ Tryz.underlying49 zv_u8 rfl rfl g 0 _ _ (by omega) (fun j hj => by
        obtain rfl : j = 0 := by omega
        have e : w.drew.cell? ⟨g, 0, none⟩ = cur[0]? := cell_of_row w g 0 cur 5 _ HG.out
        rw [show 0 + 0 = 0 from rfl, e, Array.getElem?_eq_getElem (by omega)]; rfl) (fun j hj => frozen_of_row w g _ cur _ HG.out)
    have HE1 := Lib.hid (show (w.drew.setCell ⟨g, 0, none⟩ (.int .u8 0)).ownsRow 0 5 1 (.slice (some ⟨g, 0, none⟩) 0 cap) 0 (u8V []) ∧ Chg (fun k => k = g) w (w.drew.setCell ⟨g, 0, none⟩ (.int .u8 0)) from
      ⟨⟨rfl, .inr ⟨g, cap, cur.setIfInBounds 0 (.int .u8 0), rfl, Nat.zero_le _, heap_setCell_same _ g 0 cur _ _ HG.out, by omega, hmax, by simp [hsz], rfl⟩⟩, (Chg.drewN (S := fun k => k = g) 1).trans (Chg.of_cell (S := fun k => k = g) (b := g) rfl 0 (.int .u8 0))⟩)
    have hne : (1 : Int) ≤ (cap : Int) := by omega
    clear hcl HE hap1 hap0 hrow hrl hrt hfit hln hG2 HG HC HT HO
    by_cases hc1 : cap = 1
    · subst hc1
      go_enter Tryz.func98, Tryz.ntmps98
      go_upto_region 5 with fail
      refine wp_region_steady_tail (fun W => W = w.drew) 6 (by kernel_rfl) (by kernel_rfl) rfl ?_
      iterate 6
        refine steady_val ?_ ?_ (by rfl) (fun W hS => ?_) ?_ ?_
        rotate_left 2
        · subst hS
          go_simp
          exact rfl
        · go_simp
          exact rfl
      refine steady_nil ?_
      rintro W rfl
      simp only [List.drop_succ_cons, List.drop_zero]
      go_wp2_with fail
      go_ret
      exact ⟨rfl, HE1.out⟩
    · go_enter Tryz.func98, Tryz.ntmps98
      go_upto_region 5 with fail
      refine wp_region_steady_tail (fun W => W = w.drew) 6 (by kernel_rfl) (by kernel_rfl) rfl ?_
      iterate 6
        refine steady_val ?_ ?_ (by rfl) (fun W hS => ?_) ?_ ?_
        rotate_left 2
        · subst hS
          go_simp
          exact rfl
        · go_simp
          exact rfl
      refine steady_nil ?_
      rintro W rfl
      simp only [List.drop_succ_cons, List.drop_zero]
      go_wp2_with fail
      go_ret
      exact ⟨rfl, HE1.out⟩
  · have n3 : 1 < (cap : Int) := by omega
    have hap := hap1 (by omega)
    have n6 : ¬ cap = n - 1 := by omega
    have n7 : ¬ cap = 1 := by omega
    clear hap1 hap0 hrow hrl hrt hfit hln hG2 HG HC HT HO
    go_enter Tryz.func98, Tryz.ntmps98
    go_upto_region 5 with fail
    refine wp_region_steady_tail (fun W => W = w.drew) 6 (by kernel_rfl) (by kernel_rfl) rfl ?_
    iterate 6
      refine steady_val ?_ ?_ (by rfl) (fun W hS => ?_) ?_ ?_
      rotate_left 2
      · subst hS
        go_simp
        exact rfl
      · go_simp
        exact rfl
    refine steady_nil ?_
    rintro W rfl
    simp only [List.drop_succ_cons, List.drop_zero]
    go_wp2_with (at_builtin; refine wpList_appendK rfl _ _ 49 rfl _ _ _ rfl rfl hap ?_)
    go_ret
    exact ⟨rfl, HE.out⟩
end Go.Proofs.YtfjdalepaacmgaaGreat
set_option maxRecDepth 20000
namespace Go.Proofs.YtfjdalepaacmgaaGreat
open Go.ChangeShapes Go.WideShapes Go.ChangeAt Go.RowKit

abbrev PoT : TypeId := 121
abbrev StT : TypeId := 119
abbrev U8 : TypeId := 5
abbrev U8S : TypeId := 49
def stV (s : Ut.S) : Array Value := #[.int .u8 s.ier, .int .u8 s.lcr, .int .u8 s.mcr, .int .u8 s.scr, .int .u8 s.dll, .int .u8 s.dlm, .bool s.fifo, .bool s.lost, .bool s.empty]
def ptV (s : Ut.S) (qv sv : Value) : Array Value := #[.int .u8 s.ier, .int .u8 s.lcr, .int .u8 s.mcr, .int .u8 s.scr, .int .u8 s.dll, .int .u8 s.dlm, .bool s.fifo, .bool s.lost, .bool s.empty, qv, sv]
theorem info_PoT : (Tryz.prog.info? PoT).map (·.size) = some 11 := by kernel_rfl
theorem info_StT : (Tryz.prog.info? StT).map (·.size) = some 9 := by kernel_rfl
/-- A port in a block; which blocks are its own: F. -/
structure PtS (F : Nat → Prop) (w : World) (b : Nat) (s : Ut.S) (qv sv : Value) : Prop where
  row : CsAt w b PoT (ptV s qv sv)
  q : w.ownsRow 0 U8 1 qv s.q.length (u8V s.q)
  o : w.ownsRow 0 U8 1 sv s.out.length (u8V s.out)
  fb : F b
  fq : ∀ k, qv.ownBlock = some k → F k ∧ k ≠ b
  fo : ∀ k, sv.ownBlock = some k → F k ∧ k ≠ b
  qo : ∀ k, qv.ownBlock = some k → sv.ownBlock ≠ some k
  lt : ∀ k, F k → k < w.heap.size
  ok : Ut.Ok s
def Pt (F : Nat → Prop) (w : World) (b : Nat) (s : Ut.S) : Prop := ∃ qv sv, PtS F w b s qv sv
/-- What is a port's when it has made something. -/
def Nw (F : Nat → Prop) (w w' : World) : Nat → Prop := fun k => F k ∨ (w.heap.size ≤ k ∧ k < w'.heap.size)
section
variable {F G : Nat → Prop} {w w' w1 : World} {b : Nat} {s t : Ut.S} {qv sv : Value}
theorem PtS.mono (h : PtS F w b s qv sv) (hG : ∀ k, F k → G k) (hl : ∀ k, G k → k < w.heap.size) : PtS G w b s qv sv :=
  ⟨h.row, h.q, h.o, hG b h.fb, fun k hk => ⟨hG k (h.fq k hk).1, (h.fq k hk).2⟩, fun k hk => ⟨hG k (h.fo k hk).1, (h.fo k hk).2⟩, h.qo, hl, h.ok⟩
/-- Nothing of its own changed. -/
theorem PtS.keep (h : PtS F w b s qv sv) (hc : Chg G w w') (hG : ∀ k, F k → ¬ G k) : PtS F w' b s qv sv :=
  ⟨hc.cs h.row (hG b h.fb), hc.own h.q (fun k hk => hG k (h.fq k hk).1), hc.own h.o (fun k hk => hG k (h.fo k hk).1), h.fb, h.fq, h.fo, h.qo, fun k hk => Nat.lt_of_lt_of_le (h.lt k hk) hc.size, h.ok⟩
theorem PtS.low (h : PtS F w b s qv sv) (hb : Below w.heap.size w w') : PtS F w' b s qv sv := h.keep (G := fun _ => False) (Chg.of_below hb) (fun _ _ h => h)
theorem Pt.keep (h : Pt F w b s) (hc : Chg G w w') (hG : ∀ k, F k → ¬ G k) : Pt F w' b s := by
  obtain ⟨qv, sv, h⟩ := h
  exact ⟨qv, sv, h.keep hc hG⟩
theorem Pt.low (h : Pt F w b s) (hb : Below w.heap.size w w') : Pt F w' b s := by
  obtain ⟨qv, sv, h⟩ := h
  exact ⟨qv, sv, h.low hb⟩
theorem Pt.mono (h : Pt F w b s) (hG : ∀ k, F k → G k) (hl : ∀ k, G k → k < w.heap.size) : Pt G w b s := by
  obtain ⟨qv, sv, h⟩ := h
  exact ⟨qv, sv, h.mono hG hl⟩
theorem Pt.lt (h : Pt F w b s) : ∀ k, F k → k < w.heap.size := by
  obtain ⟨qv, sv, h⟩ := h
  exact h.lt
theorem Pt.ok (h : Pt F w b s) : Ut.Ok s := by
  obtain ⟨qv, sv, h⟩ := h
  exact h.ok
theorem PtS.p (h : PtS F w b s qv sv) : Pt F w b s := ⟨qv, sv, h⟩
theorem PtS.cells (h : PtS F w b s qv sv) : w.cell? ⟨b, 0, none⟩ = some (.int .u8 s.ier) ∧ w.cell? ⟨b, 1, none⟩ = some (.int .u8 s.lcr) ∧ w.cell? ⟨b, 2, none⟩ = some (.int .u8 s.mcr) ∧ w.cell? ⟨b, 3, none⟩ = some (.int .u8 s.scr) ∧
    w.cell? ⟨b, 4, none⟩ = some (.int .u8 s.dll) ∧ w.cell? ⟨b, 5, none⟩ = some (.int .u8 s.dlm) ∧ w.cell? ⟨b, 6, none⟩ = some (.bool s.fifo) ∧ w.cell? ⟨b, 7, none⟩ = some (.bool s.lost) ∧ w.cell? ⟨b, 8, none⟩ = some (.bool s.empty) ∧
    w.cell? ⟨b, 9, none⟩ = some qv ∧ w.cell? ⟨b, 10, none⟩ = some sv :=
  ⟨h.row.cell 0, h.row.cell 1, h.row.cell 2, h.row.cell 3, h.row.cell 4, h.row.cell 5, h.row.cell 6, h.row.cell 7, h.row.cell 8, h.row.cell 9, h.row.cell 10⟩
theorem PtS.st (h : PtS F w b s qv sv) : w.rangeAt b 0 (stV s).toList := fun j v hj => by
  have hl : j < 9 := by
    have := (List.getElem?_eq_some_iff.1 hj).1
    simpa [stV] using this
  rw [h.row.cell, ← hj]
  obtain rfl | rfl | rfl | rfl | rfl | rfl | rfl | rfl | rfl : j = 0 ∨ j = 1 ∨ j = 2 ∨ j = 3 ∨ j = 4 ∨ j = 5 ∨ j = 6 ∨ j = 7 ∨ j = 8 := by omega
  all_goals rfl
/-- One of its cells is stored, none of the slices. -/
theorem PtS.upd (h : PtS F w b s qv sv) {i : Nat} {v : Value} (e : (ptV s qv sv).setIfInBounds i v = ptV t qv sv) (eq : t.q = s.q) (eo : t.out = s.out) (ok : Ut.Ok t) : PtS F (w.setCell ⟨b, i, none⟩ v) b t qv sv := by
  have hc : Chg (fun k => k = b) w (w.setCell ⟨b, i, none⟩ v) := Chg.of_cell (S := fun k => k = b) rfl i v
  refine ⟨?_, ?_, ?_, h.fb, h.fq, h.fo, h.qo, fun k hk => by simpa using h.lt k hk, ok⟩
  · unfold CsAt
    rw [heap_setCell_same w b i _ PoT _ h.row, e]
  · rw [eq]; exact hc.own h.q (fun k hk e => (h.fq k hk).2 e)
  · rw [eo]; exact hc.own h.o (fun k hk e => (h.fo k hk).2 e)
/-- The queue is another one. -/
theorem PtS.setQ (h : PtS F w b s qv sv) {v : Value} {xs : List Int} (ho : w.ownsRow 0 U8 1 v xs.length (u8V xs)) (hf : ∀ k, v.ownBlock = some k → F k ∧ k ≠ b ∧ sv.ownBlock ≠ some k) (ok : Ut.Ok { s with q := xs }) :
    PtS F (w.setCell ⟨b, 9, none⟩ v) b { s with q := xs } v sv := by
  have hc : Chg (fun k => k = b) w (w.setCell ⟨b, 9, none⟩ v) := Chg.of_cell (S := fun k => k = b) rfl 9 v
  refine ⟨?_, ?_, ?_, h.fb, fun k hk => ⟨(hf k hk).1, (hf k hk).2.1⟩, h.fo, fun k hk => (hf k hk).2.2, fun k hk => by simpa using h.lt k hk, ok⟩
  · unfold CsAt
    rw [heap_setCell_same w b 9 _ PoT _ h.row]
    rfl
  · exact hc.own ho (fun k hk e => (hf k hk).2.1 e)
  · exact hc.own h.o (fun k hk e => (h.fo k hk).2 e)
/-- What went out is another one. -/
theorem PtS.setO (h : PtS F w b s qv sv) {v : Value} {xs : List Int} (ho : w.ownsRow 0 U8 1 v xs.length (u8V xs)) (hf : ∀ k, v.ownBlock = some k → F k ∧ k ≠ b ∧ qv.ownBlock ≠ some k) (ok : Ut.Ok { s with out := xs }) :
    PtS F (w.setCell ⟨b, 10, none⟩ v) b { s with out := xs } qv v := by
  have hc : Chg (fun k => k = b) w (w.setCell ⟨b, 10, none⟩ v) := Chg.of_cell (S := fun k => k = b) rfl 10 v
  refine ⟨?_, ?_, ?_, h.fb, h.fq, fun k hk => ⟨(hf k hk).1, (hf k hk).2.1⟩, fun k hk e => (hf k e).2.2 hk, fun k hk => by simpa using h.lt k hk, ok⟩
  · unfold CsAt
    rw [heap_setCell_same w b 10 _ PoT _ h.row]
    rfl
  · exact hc.own h.q (fun k hk e => (h.fq k hk).2 e)
  · exact hc.own ho (fun k hk e => (hf k hk).2.1 e)
/-- What a call leaves: the port, and nothing else changed. -/
structure PtQ (F : Nat → Prop) (w w' : World) (b : Nat) (s : Ut.S) : Prop where
  pt : Pt (Nw F w w') w' b s
  chg : Chg F w w'
theorem PtQ.of (h : Pt F w' b s) (hc : Chg F w w') : PtQ F w w' b s := ⟨h.mono (fun _ hk => .inl hk) (fun k hk => hk.elim (h.lt k) (fun h2 => h2.2)), hc⟩
theorem PtQ.low (h : PtQ F w w' b s) (hb : Below w'.heap.size w' w1) : PtQ F w w1 b s :=
  ⟨(h.pt.low hb).mono (fun _ hk => hk.imp id (fun h2 => ⟨h2.1, Nat.lt_of_lt_of_le h2.2 hb.size⟩)) (fun _ hk => hk.elim (fun h2 => Nat.lt_of_lt_of_le (h.pt.lt _ (.inl h2)) hb.size) (fun h2 => h2.2)), h.chg.trans (Chg.of_below hb)⟩
/-- A call behind something that leaves the port alone. -/
theorem PtQ.seq (h : Chg F w w1) (k : PtQ F w1 w' b s) : PtQ F w w' b s :=
  ⟨k.pt.mono (fun _ hi => hi.imp id (fun h2 => ⟨Nat.le_trans h.size h2.1, h2.2⟩)) (fun i hi => hi.elim (fun h1 => k.pt.lt i (.inl h1)) (fun h2 => h2.2)), h.trans k.chg⟩
/-- A struct that is loaded out of a block, by an operation whose guard says yes. -/
theorem wpList_load_midW {P : Program} {ops : Array Oper} {rest : List Oper} {o : Oper} {a : Act} {w : World} {Q : Exit → Act → World → Prop} (hw : Region.wanted o (yielded ops a.tmps) = true) (ty : TypeId) (x : Operand) (ho : o.op = .load ty x)
    (b off : Nat) (hx : a.eval x = .pointer (some ⟨b, off, none⟩)) (cs : List Value) (d : TypeDesc) (hc : w.rangeAt b off cs)
    (hu : P.underlying ty = some d) (hd : d.isRow = true) (hi : (P.info? ty).map (·.size) = some cs.length)
    (h : wpList P ops Q rest (a.put o.dst (.agg cs.toArray)) w) : wpList P ops Q (o :: rest) a w :=
  wpList_step fun _ hK => by
    rw [if_pos hw]
    exact wp_load_mid ty x ho b off hx cs d hc hu hd hi (hK _ _ h)
/-- One call behind another one. -/
theorem PtQ.then (h : Chg F w w1) (k : PtQ (Nw F w w1) w1 w' b s) : PtQ F w w' b s :=
  ⟨k.pt.mono (fun i hi => by
      rcases hi with (h1 | h2) | h3
      · exact .inl h1
      · exact .inr ⟨h2.1, Nat.lt_of_lt_of_le h2.2 k.chg.size⟩
      · exact .inr ⟨Nat.le_trans h.size h3.1, h3.2⟩)
    (fun i hi => hi.elim (fun h1 => k.pt.lt i (.inl (.inl h1))) (fun h2 => h2.2)),
   h.transN k.chg (fun i hi => hi.elim .inl (fun h2 => .inr h2.1))⟩
/-- A byte more in the queue, or among what went out: the slice that an append has made, stored. -/
theorem PtS.push {i : Nat} (h : PtS F w b s qv sv) {x : Int} {v' : Value} (hq : i = 9 ∧ Ut.Ok { s with q := s.q ++ [x] } ∨ i = 10 ∧ Ut.Ok { s with out := s.out ++ [x] })
    (ho : w'.ownsRow 0 U8 1 v' ((if i = 9 then s.q else s.out).length + 1) (u8V (if i = 9 then s.q else s.out) ++ [.int .u8 x])) (hg : (w.alloc (.cells #[.int .u8 x] U8)).grownBy w' (if i = 9 then qv else sv).ownBlock)
    (hv : v'.ownBlock = (if i = 9 then qv else sv).ownBlock ∨ v'.ownBlock = some (w.heap.size + 1)) :
    PtQ F w (w'.setCell ⟨b, i, none⟩ v') b (if i = 9 then { s with q := s.q ++ [x] } else { s with out := s.out ++ [x] }) := by
  have ha : Below w.heap.size w (w.alloc (.cells #[.int .u8 x] U8)) := (Below.refl _ _).alloc (Nat.le_refl _) _
  have h1 := h.low ha
  have hsz : (w.alloc (.cells #[.int .u8 x] U8)).heap.size = w.heap.size + 1 := by simp
  have hgs := hg.size
  have hown : ∀ k, (if i = 9 then qv else sv).ownBlock = some k → F k ∧ k ≠ b := by
    intro k hk
    split at hk
    · exact h.fq k hk
    · exact h.fo k hk
  have hbl := h.lt b h.fb
  have hvl : ∀ k, v'.ownBlock = some k → Nw F w w' k ∧ k ≠ b := by
    intro k hk
    have hkl := ho.lt k hk
    rcases hv with e | e
    · rw [e] at hk
      exact ⟨.inl (hown k hk).1, (hown k hk).2⟩
    · rw [e] at hk
      simp only [Option.some.injEq] at hk
      exact ⟨.inr ⟨by omega, hkl.2⟩, by omega⟩
  have hcw : Chg F w w' := (Chg.of_below ha).trans (Chg.of_grown hg (fun _ hk => (hown _ hk).1))
  have hcw2 : Chg F w (w'.setCell ⟨b, i, none⟩ v') := hcw.trans (Chg.of_cell h.fb i v')
  have hrow : CsAt w' b PoT (ptV s qv sv) := (Chg.of_grown (S := fun k => (if i = 9 then qv else sv).ownBlock = some k) hg (fun k hk => hk)).cs h1.row (fun e => (hown b e).2 rfl)
  have hlt : ∀ k, Nw F w w' k → k < w'.heap.size := fun k hk => hk.elim (fun h2 => Nat.lt_of_lt_of_le (h.lt k h2) hcw.size) (fun h2 => h2.2)
  refine ⟨?_, hcw2⟩
  rw [show Nw F w (w'.setCell ⟨b, i, none⟩ v') = Nw F w w' by unfold Nw; simp]
  rcases hq with ⟨rfl, ok⟩ | ⟨rfl, ok⟩
  · simp only [if_pos] at ho hg hv hown hrow ⊢
    have hS : PtS (Nw F w w') w' b s v' sv → PtS (Nw F w w') w' b s v' sv := id
    have hc1 : w'.ownsRow 0 U8 1 sv s.out.length (u8V s.out) := (Chg.of_grown (S := fun k => qv.ownBlock = some k) hg (fun k hk => hk)).own h1.o (fun k hk e => h.qo k e hk)
    have hc : Chg (fun k => k = b) w' (w'.setCell ⟨b, 9, none⟩ v') := Chg.of_cell (S := fun k => k = b) rfl 9 v'
    refine ⟨v', sv, ?_, ?_, ?_, .inl h.fb, hvl, fun k hk => ⟨.inl (h.fo k hk).1, (h.fo k hk).2⟩, ?_, fun k hk => by simpa using hlt k hk, ok⟩
    · unfold CsAt
      rw [heap_setCell_same w' b 9 _ PoT _ hrow]
      rfl
    · have := hc.own ho (fun k hk e => (hvl k hk).2 e)
      simpa [u8V] using this
    · exact hc.own hc1 (fun k hk e => (h.fo k hk).2 e)
    · intro k hk e
      rcases hv with e2 | e2
      · rw [e2] at hk
        exact h.qo k hk e
      · rw [e2] at hk
        simp only [Option.some.injEq] at hk
        have := h.lt k (h.fo k e).1
        omega
  · rw [if_neg (by omega)] at ho hg hv
    simp only [show ¬ ((10 : Nat) = 9) by omega, if_false] at hown hrow ⊢
    have hc1 : w'.ownsRow 0 U8 1 qv s.q.length (u8V s.q) := (Chg.of_grown (S := fun k => sv.ownBlock = some k) hg (fun k hk => hk)).own h1.q (fun k hk e => h.qo k hk e)
    have hc : Chg (fun k => k = b) w' (w'.setCell ⟨b, 10, none⟩ v') := Chg.of_cell (S := fun k => k = b) rfl 10 v'
    refine ⟨qv, v', ?_, ?_, ?_, .inl h.fb, fun k hk => ⟨.inl (h.fq k hk).1, (h.fq k hk).2⟩, hvl, ?_, fun k hk => by simpa using hlt k hk, ok⟩
    · unfold CsAt
      rw [heap_setCell_same w' b 10 _ PoT _ hrow]
      rfl
    · exact hc.own hc1 (fun k hk e => (h.fq k hk).2 e)
    · have := hc.own ho (fun k hk e => (hvl k hk).2 e)
      simpa [u8V] using this
    · intro k hk e
      rcases hv with e2 | e2
      · rw [e2] at e
        exact h.qo k hk e
      · rw [e2] at e
        simp only [Option.some.injEq] at e
        have := h.lt k (h.fq k hk).1
        omega
end
/-! A byte's bits. -/
namespace Ut
theorem and_bit : ∀ x : Fin 256, ∀ i : Fin 8, (Go.bits .and .u8 ((x : Nat) : Int) ((2 ^ (i : Nat) : Nat) : Int) != 0) = bt ((x : Nat) : Int) i := by decide +kernel
theorem and_b {x : Int} (h : isB x) (i : Nat) (hi : i < 8) : (Go.bits .and .u8 x ((2 ^ i : Nat) : Int) != 0) = bt x i := by
  obtain ⟨n, rfl⟩ := Int.eq_ofNat_of_zero_le h.1
  have hn : n < 256 := by have := h.2; omega
  exact and_bit ⟨n, hn⟩ ⟨i, hi⟩
theorem and1 {x : Int} (h : isB x) : (Go.bits .and .u8 x 1 != 0) = bt x 0 := and_b h 0 (by omega)
theorem and2 {x : Int} (h : isB x) : (Go.bits .and .u8 x 2 != 0) = bt x 1 := and_b h 1 (by omega)
theorem and4 {x : Int} (h : isB x) : (Go.bits .and .u8 x 4 != 0) = bt x 2 := and_b h 2 (by omega)
theorem and16 {x : Int} (h : isB x) : (Go.bits .and .u8 x 16 != 0) = bt x 4 := and_b h 4 (by omega)
theorem and128 {x : Int} (h : isB x) : (Go.bits .and .u8 x 128 != 0) = bt x 7 := and_b h 7 (by omega)
theorem ier_b {s : S} (h : Ok s) : isB s.ier := ⟨h.ier.1, by have := h.ier.2; omega⟩
theorem mcr_b {s : S} (h : Ok s) : isB s.mcr := ⟨h.mcr.1, by have := h.mcr.2; omega⟩
end Ut
set_option maxHeartbeats 1000000 in
theorem latched_c (s : Ut.S) (ok : Ut.Ok s) (w : World) : Calls Tryz.prog 84 #[.agg (stV s)] w fun e w' => e = .returned (.bool (Ut.hi s)) ∧ Below w.heap.size w w' := by
  have HB := Lib.hid ((Below.refl w.heap.size w).alloc (Nat.le_refl _) (Obj.cells (stV s) StT))
  have e0 : (bits .and .u8 s.lcr 128 != 0) = Ut.hi s := Ut.and128 ok.lcr
  go_enter Tryz.func84, Tryz.ntmps84
  simp only [stV] at HB ⊢
  go_wp2_with fail
  go_ret
  exact ⟨rfl, HB.out⟩
set_option maxHeartbeats 1000000 in
theorem looped_c (s : Ut.S) (ok : Ut.Ok s) (w : World) : Calls Tryz.prog 61 #[.agg (stV s)] w fun e w' => e = .returned (.bool (Ut.lp s)) ∧ Below w.heap.size w w' := by
  have HB := Lib.hid ((Below.refl w.heap.size w).alloc (Nat.le_refl _) (Obj.cells (stV s) StT))
  have e0 : (bits .and .u8 s.mcr 16 != 0) = Ut.lp s := Ut.and16 (Ut.mcr_b ok)
  go_enter Tryz.func61, Tryz.ntmps61
  simp only [stV] at HB ⊢
  go_wp2_with fail
  go_ret
  exact ⟨rfl, HB.out⟩
end Go.Proofs.YtfjdalepaacmgaaGreat
set_option maxRecDepth 20000
namespace Go.Proofs.YtfjdalepaacmgaaGreat
open Go.ChangeShapes Go.WideShapes Go.ChangeAt Go.RowKit

theorem wpList_pushG {P : Program} {ops : Array Oper} {rest : List Oper} {o : Oper} {a : Act} {Q : Exit → Act → World → Prop} {w1 : World} (hgd : o.guard = none) (s x : Operand) (t : TypeId)
    (ho : o.op = .call { callee := .builtin .append, args := #[s, x], argTypes := #[t, t] })
    (base : Nat) (e : TypeId) (z : Value) (size bytes : Nat) (ht : P.underlying t = some (.slice e)) (hi : (P.info? e).map (fun i => (i.zero, i.size, i.bytes)) = some (some z, size, bytes))
    (hzs : z.cells.size = size) (hsz : 0 < size) (hby : bytes ≤ 60000)
    (v : Value) (n : Nat) (xs : List Value) (hs : a.eval s = v) (hown : w1.ownsRow base e size v n xs) (cs : Array Value) (hcs : cs.size = size) (h1 : cs.all (·.oneCell') = true)
    (b : Nat) (hx : a.eval x = .slice (some ⟨b, 0, none⟩) 1 1) (hb : b = w1.heap.size) (hn : n < 1000) (hbase : base ≤ w1.heap.size)
    (h : ∀ v' w', w'.ownsRow base e size v' (n + 1) (xs ++ cs.toList) → (w1.alloc (.cells cs e)).grownBy w' v.ownBlock → Hid (v'.ownBlock = v.ownBlock ∨ v'.ownBlock = some (w1.alloc (.cells cs e)).heap.size) → wpList P ops Q rest (a.put o.dst v') w') : wpList P ops Q (o :: rest) a (w1.alloc (.cells cs e)) := by
  subst hb
  obtain ⟨i, hi, hz⟩ := Option.map_eq_some_iff.1 hi
  simp only [Prod.mk.injEq] at hz
  refine wpList_append_own_at _ hgd s x t ho base e i z size bytes ht hi hz.1 hz.2.1 hz.2.2 hzs hsz v n xs hs (hown.alloc _) ⟨w1.heap.size, 0, none⟩ 1 1 cs.toList hx (by simpa using hcs) ?_ ?_ (by unfold maxLen; omega) ?_ (by simp; omega) ?_
  · intro j u hj
    rw [add_plain, Nat.zero_add, (CsAt.new w1 e cs).cell]
    simpa using hj
  · intro u hu
    exact (Array.all_eq_true_iff_forall_mem.1 h1) u (by simpa using hu)
  · have : (n + 1) * bytes ≤ 1000 * 60000 := Nat.mul_le_mul (by omega) hby
    omega
  · intro v' w' hown' hg _ hv
    exact h v' w' hown' hg (Lib.hid hv)
end Go.Proofs.YtfjdalepaacmgaaGreat
