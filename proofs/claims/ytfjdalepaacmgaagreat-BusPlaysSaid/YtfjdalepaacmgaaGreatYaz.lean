/-
  When two buses are the same: the clint's and the controller's words, as the program and as the reference have them. Contract of bus.Same. The reference of layer 18: Same.
-/
import Derived.Test.YtfjdalepaacmgaaGreatYau
import Derived.Test.YtfjdalepaacmgaaGreatYam
import Derived.Test.YtfjdalepaacmgaaGreatYay
set_option maxRecDepth 20000
namespace Go.Proofs.YtfjdalepaacmgaaGreat
open Go.ChangeShapes Go.WideShapes Go.ChangeAt Go.RowKit

namespace Eqf
theorem eqv_eq {k : Option IntKind} {v u : Value} (hv : okV k v = true) (hu : okV k u = true) : eqv v u = true ↔ v = u := by
  cases k with
  | none =>
    cases v <;> simp [okV] at hv
    cases u <;> simp [okV] at hu
    simp [eqv]
  | some q =>
    cases v <;> simp [okV] at hv
    cases u <;> simp [okV] at hu
    simp [eqv, hv.1, hu.1]
theorem eqL_eq : ∀ {ks : List (Option IntKind)} {vs us : List Value}, okL ks vs = true → okL ks us = true → (eqL vs us = true ↔ vs = us)
  | [], [], [], _, _ => by simp [eqL]
  | k :: ks, v :: vs, u :: us, h, g => by
    simp only [okL, Bool.and_eq_true] at h g
    simp only [eqL, Bool.and_eq_true, List.cons.injEq, eqv_eq h.1 g.1, eqL_eq h.2 g.2]
  | [], _ :: _, _, h, _ => by simp [okL] at h
  | [], [], _ :: _, _, g => by simp [okL] at g
  | _ :: _, [], _, h, _ => by simp [okL] at h
  | _ :: _, _ :: _, [], _, g => by simp [okL] at g
theorem okL_map {α : Type} (f : α → Value) (k : α → Option IntKind) : ∀ l : List α, (∀ i ∈ l, okV (k i) (f i) = true) → okL (l.map k) (l.map f) = true
  | [], _ => rfl
  | x :: l, h => by
    simp only [List.map_cons, okL, Bool.and_eq_true]
    exact ⟨h x (by simp), okL_map f k l (fun i hi => h i (by simp [hi]))⟩
end Eqf
theorem wf_i64B {n : Nat} (h : n ≤ 8) : (Lit.int .i64 (n : Int)).wf = true := WalkArith.wf_i64 ⟨by omega, by omega⟩
theorem wf_u64B {x : Int} (h : 0 ≤ x ∧ x ≤ 18446744073709551615) : (Lit.int .u64 x).wf = true := WalkArith.wf_u64 ⟨h.1, by omega⟩
/-- The kinds of a row of words. -/
def ksC (m : Nat) : List (Option IntKind) := some .i64 :: List.replicate m (some .u64)
theorem ctV_list (n : Nat) (ws : List Int) : (ctV n ws).toList = .int .i64 n :: ws.map (Value.int .u64) := by simp [ctV]
theorem okL_ct {n m : Nat} {ws : List Int} (hn : n ≤ 8) (hl : ws.length = m) (hr : ∀ x ∈ ws, 0 ≤ x ∧ x ≤ 18446744073709551615) : Eqf.okL (ksC m) (ctV n ws).toList = true := by
  rw [ctV_list, ksC]
  simp only [Eqf.okL, Bool.and_eq_true]
  refine ⟨by simp [Eqf.okV, wf_i64B hn], ?_⟩
  have := Eqf.okL_map (Value.int .u64) (fun _ => some IntKind.u64) ws (fun x hx => by simp [Eqf.okV, wf_u64B (hr x hx)])
  rwa [List.map_const', hl] at this
theorem map_u64_inj {a b : List Int} (h : a.map (Value.int .u64) = b.map (Value.int .u64)) : a = b :=
  List.map_inj_right (fun x y e => by simpa using e) |>.1 h
theorem eq_ct {n m k : Nat} {a b : List Int} (hn : n ≤ 8) (hm : m ≤ 8) (ha : a.length = k) (hb : b.length = k) (ra : ∀ x ∈ a, 0 ≤ x ∧ x ≤ 18446744073709551615) (rb : ∀ x ∈ b, 0 ≤ x ∧ x ≤ 18446744073709551615) :
    Eqf.eqL (ctV n a).toList (ctV m b).toList = true ↔ n = m ∧ a = b := by
  rw [Eqf.eqL_eq (okL_ct hn ha ra) (okL_ct hm hb rb), ctV_list, ctV_list]
  constructor
  · intro h
    simp only [List.cons.injEq, Value.int.injEq, true_and] at h
    exact ⟨by omega, map_u64_inj h.2⟩
  · rintro ⟨rfl, rfl⟩; rfl
theorem Ct.Ok.all {n : Nat} {ws : List Int} (h : Ct.Ok n ws) : ∀ x ∈ ws, 0 ≤ x ∧ x ≤ 18446744073709551615 := fun x hx => by
  obtain ⟨i, hi, rfl⟩ := List.mem_iff_getElem.1 hx
  have := h.rng i
  simpa [List.getD, List.getElem?_eq_getElem hi] using this
theorem Pc.Ok.all {n : Nat} {ws : List Int} (h : Pc.Ok n ws) : ∀ x ∈ ws, 0 ≤ x ∧ x ≤ 18446744073709551615 := fun x hx => by
  obtain ⟨i, hi, rfl⟩ := List.mem_iff_getElem.1 hx
  have hl := h.len
  have e : ws[i] = ws.getD i 0 := by simp [List.getD, List.getElem?_eq_getElem hi]
  rw [e]
  have st : ∀ {y : Int}, Pc.St y → 0 ≤ y ∧ y ≤ 18446744073709551615 := fun hy => ⟨hy.lo, by have := hy.lt32; omega⟩
  by_cases h0 : i < 3
  · obtain rfl | rfl | rfl : i = 0 ∨ i = 1 ∨ i = 2 := by omega
    · exact st h.wire
    · exact st h.wait
    · exact st h.serv
  · by_cases h1 : i < 35
    · have := h.pri (i - 3) (by omega)
      rw [show 3 + (i - 3) = i by omega] at this
      omega
    · by_cases h2 : i < 51
      · have := h.en (i - 35) (by omega)
        rw [show 35 + (i - 35) = i by omega] at this
        exact st this
      · have := h.thr (i - 51) (by omega)
        rw [show 51 + (i - 51) = i by omega] at this
        omega
/-! As the reference has them. -/
def ks15 : List (Option IntKind) := some .i64 :: (List.replicate 9 (some .u64) ++ List.replicate 8 none)
theorem x15_list (n : Nat) (ws : List Int) : (x15V n ws).toList = .int .i64 n :: ((ws.take 9).map (Value.int .u64) ++ (ws.drop 9).map (fun x => Value.bool (x == 1))) := by simp [x15V]
theorem okL_15 {n : Nat} {ws : List Int} (h : Ct.Ok n ws) : Eqf.okL ks15 (x15V n ws).toList = true := by
  have hl := h.len
  rw [x15_list, ks15]
  simp only [Eqf.okL, Bool.and_eq_true]
  refine ⟨by simp [Eqf.okV, wf_i64B h.n8], Eqf.app_okL ?_ ?_⟩
  · have := Eqf.okL_map (Value.int .u64) (fun _ => some IntKind.u64) (ws.take 9) (fun x hx => by simp [Eqf.okV, wf_u64B (h.all x (List.mem_of_mem_take hx))])
    rwa [List.map_const', show (ws.take 9).length = 9 by simp [hl]] at this
  · have := Eqf.okL_map (fun x : Int => Value.bool (x == 1)) (fun _ => (none : Option IntKind)) (ws.drop 9) (fun x _ => rfl)
    rwa [List.map_const', show (ws.drop 9).length = 8 by simp [hl]] at this
theorem eq_15 {n m : Nat} {a b : List Int} (ha : Ct.Ok n a) (hb : Ct.Ok m b) : Eqf.eqL (x15V n a).toList (x15V m b).toList = true ↔ n = m ∧ a = b := by
  rw [Eqf.eqL_eq (okL_15 ha) (okL_15 hb), x15_list, x15_list]
  constructor
  · intro h
    simp only [List.cons.injEq, Value.int.injEq, true_and] at h
    have hs := List.append_inj h.2 (by simp [ha.len, hb.len])
    refine ⟨by omega, ?_⟩
    have h1 := map_u64_inj hs.1
    have h2 : a.drop 9 = b.drop 9 := by
      refine List.ext_getElem (by simp [ha.len, hb.len]) (fun i hi hj => ?_)
      have hi' : i < 8 := by simpa [ha.len] using hi
      have e := congrArg (fun l => l[i]?) hs.2
      simp only [List.getElem?_map, List.getElem?_drop] at e
      have xa := ha.bit i
      have xb := hb.bit i
      rw [List.getElem?_eq_getElem (by have := ha.len; omega), List.getElem?_eq_getElem (by have := hb.len; omega)] at e
      simp only [Option.map_some, Option.some.injEq, Value.bool.injEq] at e
      simp only [List.getD, List.getElem?_eq_getElem (show 9 + i < a.length by have := ha.len; omega), Option.getD_some] at xa
      simp only [List.getD, List.getElem?_eq_getElem (show 9 + i < b.length by have := hb.len; omega), Option.getD_some] at xb
      rw [List.getElem_drop, List.getElem_drop]
      rcases xa with xa | xa <;> rcases xb with xb | xb <;> rw [xa, xb] at e ⊢ <;> simp at e
    rw [← List.take_append_drop 9 a, ← List.take_append_drop 9 b, h1, h2]
  · rintro ⟨rfl, rfl⟩; rfl
def kx16 (i : Nat) : Option IntKind := if i < 33 then some .i64 else if i < 641 then none else some .i64
theorem x16_list (n : Nat) (ws : List Int) : (x16V n ws).toList = (List.range 657).map (xc n ws) := by simp [x16V]
theorem okL_16 {n : Nat} {ws : List Int} (h : Pc.Ok n ws) : Eqf.okL ((List.range 657).map kx16) (x16V n ws).toList = true := by
  rw [x16_list]
  refine Eqf.okL_map (xc n ws) kx16 _ (fun i hi => ?_)
  have hi' : i < 657 := by simpa using hi
  have w8 : ∀ {y : Int}, 0 ≤ y → y < 8 → Eqf.okV (some .i64) (.int .i64 y) = true := fun {y} h0 h1 => by simp [Eqf.okV, show (Lit.int .i64 y).wf = true from WalkArith.wf_i64 ⟨by omega, by omega⟩]
  unfold xc kx16
  by_cases h0 : i = 0
  · subst h0; simp [Eqf.okV, wf_i64B h.n8]
  · by_cases h1 : i < 33
    · rw [if_neg h0, if_pos h1, if_pos h1]
      have := h.pri (i - 1) (by omega)
      exact w8 this.1 this.2
    · by_cases h5 : i < 641
      · rw [if_neg h0, if_neg h1, if_neg h1, if_pos h5]
        repeat' split
        all_goals first | rfl | omega
      · simp only [h0, h1, h5, show ¬ i < 65 by omega, show ¬ i < 97 by omega, show ¬ i < 129 by omega, if_false]
        have := h.thr (i - 641) (by omega)
        exact w8 this.1 this.2
theorem St_eq {x y : Int} (hx : Pc.St x) (hy : Pc.St y) (h : ∀ i, i < 32 → Wd.tb x i = Wd.tb y i) : x = y :=
  Wd.ext hx.lo (by have := hx.lt32; omega) hy.lo (by have := hy.lt32; omega) (fun i _ => by
    by_cases hi : i < 32
    · exact h i hi
    · have e : ∀ {z : Int}, Pc.St z → Wd.tb z i = false := fun {z} hz => by
        cases e : Wd.tb z i with
        | false => rfl
        | true => have := hz.bits i e; omega
      rw [e hx, e hy])
theorem eq_16 {n m : Nat} {a b : List Int} (ha : Pc.Ok n a) (hb : Pc.Ok m b) : Eqf.eqL (x16V n a).toList (x16V m b).toList = true ↔ n = m ∧ a = b := by
  rw [Eqf.eqL_eq (okL_16 ha) (okL_16 hb), x16_list, x16_list]
  constructor
  · intro h
    have e : ∀ i, i < 657 → xc n a i = xc m b i := fun i hi => by
      have := congrArg (fun l => l[i]?) h
      simpa [hi] using this
    have hn : n = m := by have := e 0 (by omega); simp [xc] at this; omega
    refine ⟨hn, ?_⟩
    have hw : ∀ k, k < 67 → a.getD k 0 = b.getD k 0 := fun k hk => by
      by_cases h0 : k < 3
      · obtain rfl | rfl | rfl : k = 0 ∨ k = 1 ∨ k = 2 := by omega
        · refine St_eq ha.wire hb.wire (fun i hi => ?_)
          have := e (33 + i) (by omega)
          unfold xc at this
          rwa [if_neg (by omega), if_neg (by omega), if_pos (by omega), if_neg (by omega), if_neg (by omega), if_pos (by omega), show 33 + i - 33 = i by omega, Value.bool.injEq] at this
        · refine St_eq ha.wait hb.wait (fun i hi => ?_)
          have := e (65 + i) (by omega)
          unfold xc at this
          rwa [if_neg (by omega), if_neg (by omega), if_neg (by omega), if_pos (by omega), if_neg (by omega), if_neg (by omega), if_neg (by omega), if_pos (by omega), show 65 + i - 65 = i by omega, Value.bool.injEq] at this
        · refine St_eq ha.serv hb.serv (fun i hi => ?_)
          have := e (97 + i) (by omega)
          unfold xc at this
          rwa [if_neg (by omega), if_neg (by omega), if_neg (by omega), if_neg (by omega), if_pos (by omega), if_neg (by omega), if_neg (by omega), if_neg (by omega), if_neg (by omega), if_pos (by omega), show 97 + i - 97 = i by omega, Value.bool.injEq] at this
      · by_cases h1 : k < 35
        · have := e (k - 2) (by omega)
          unfold xc at this
          rw [if_neg (by omega), if_pos (by omega), if_neg (by omega), if_pos (by omega), show 3 + (k - 2 - 1) = k by omega] at this
          simpa using this
        · by_cases h2 : k < 51
          · have sa := ha.en (k - 35) (by omega)
            have sb := hb.en (k - 35) (by omega)
            rw [show 35 + (k - 35) = k by omega] at sa sb
            refine St_eq sa sb (fun i hi => ?_)
            have := e (129 + (k - 35) * 32 + i) (by omega)
            unfold xc at this
            rwa [if_neg (by omega), if_neg (by omega), if_neg (by omega), if_neg (by omega), if_neg (by omega), if_pos (by omega), if_neg (by omega), if_neg (by omega), if_neg (by omega), if_neg (by omega), if_neg (by omega), if_pos (by omega), show 35 + (129 + (k - 35) * 32 + i - 129) / 32 = k by omega, show (129 + (k - 35) * 32 + i - 129) % 32 = i by omega, Value.bool.injEq] at this
          · have := e (k - 51 + 641) (by omega)
            unfold xc at this
            rw [if_neg (by omega), if_neg (by omega), if_neg (by omega), if_neg (by omega), if_neg (by omega), if_neg (by omega), if_neg (by omega), if_neg (by omega), if_neg (by omega), if_neg (by omega), if_neg (by omega), if_neg (by omega), show 51 + (k - 51 + 641 - 641) = k by omega] at this
            simpa using this
    refine List.ext_getElem (by rw [ha.len, hb.len]) (fun i hi hj => ?_)
    have := hw i (by have := ha.len; omega)
    simpa [List.getD, List.getElem?_eq_getElem hi, List.getElem?_eq_getElem hj] using this
  · rintro ⟨rfl, rfl⟩; rfl
/-- Are two buses the same? -/
def sameB (X Y : Bs.B) : Bool := decide (X.n = Y.n ∧ X.c = Y.c) && decide (X.n = Y.n ∧ X.p = Y.p) && sameU X.u Y.u
end Go.Proofs.YtfjdalepaacmgaaGreat
set_option maxRecDepth 20000
namespace Go.Proofs.YtfjdalepaacmgaaGreat
open Go.ChangeShapes Go.WideShapes Go.ChangeAt Go.RowKit

theorem formed_sized {P : Program} {t : TypeId} {cs : Array Value} {k : Nat} (h : cs.size = k) (hk : (match P.underlying t with | some (.struct _) | some (.array _ _) => k == P.cellsOf t | _ => false) = true) : Value.formed P t (.agg cs) = true := by
  subst h
  exact hk
theorem formed_ct {n : Nat} {ws : List Int} (h : ws.length = 17) : Value.formed Tryz.prog CT (.agg (ctV n ws)) = true := formed_sized (k := 18) (by rw [ctV_size, h]) (by kernel_rfl)
theorem formed_pt {n : Nat} {ws : List Int} (h : ws.length = 67) : Value.formed Tryz.prog PT (.agg (ctV n ws)) = true := formed_sized (k := 68) (by rw [ctV_size, h]) (by kernel_rfl)
theorem eql_ct {n m : Nat} {a b : List Int} (ha : Ct.Ok n a) (hb : Ct.Ok m b) (w : World) : (binOp .eql CT (.agg (ctV n a)) (.agg (ctV m b))).run Tryz.prog w = .ok (.bool (decide (n = m ∧ a = b))) w := by
  have := Eqf.beql w 6 (by omega) CT (ksC 17) (by kernel_rfl) (by kernel_rfl) (ctV n a) (ctV m b) (formed_ct ha.len) (formed_ct hb.len) (okL_ct ha.n8 ha.len ha.all) (okL_ct hb.n8 hb.len hb.all)
  rwa [show Eqf.eqL (ctV n a).toList (ctV m b).toList = decide (n = m ∧ a = b) by rw [Bool.eq_iff_iff, eq_ct ha.n8 hb.n8 ha.len hb.len ha.all hb.all]; simp] at this
theorem eql_pt {n m : Nat} {a b : List Int} (ha : Pc.Ok n a) (hb : Pc.Ok m b) (w : World) : (binOp .eql PT (.agg (ctV n a)) (.agg (ctV m b))).run Tryz.prog w = .ok (.bool (decide (n = m ∧ a = b))) w := by
  have := Eqf.beql w 6 (by omega) PT (ksC 67) (by kernel_rfl) (by kernel_rfl) (ctV n a) (ctV m b) (formed_pt ha.len) (formed_pt hb.len) (okL_ct ha.n8 ha.len ha.all) (okL_ct hb.n8 hb.len hb.all)
  rwa [show Eqf.eqL (ctV n a).toList (ctV m b).toList = decide (n = m ∧ a = b) by rw [Bool.eq_iff_iff, eq_ct ha.n8 hb.n8 ha.len hb.len ha.all hb.all]; simp] at this
theorem guard_ct : Tryz.prog.eqGuardType Tryz.prog.depth CT = false := by kernel_rfl
theorem guard_pt : Tryz.prog.eqGuardType Tryz.prog.depth PT = false := by kernel_rfl
section
variable {W : World} {b n : Nat} {u : Value} {c p : List Int}
theorem bu_rc (hc : c.length = 17) (h : CsAt W b BuT (buV u n c p)) : W.rangeAt b 2 (ctV n c).toList := fun j v hv => by
  have hj : j < 18 := by
    have := (List.getElem?_eq_some_iff.1 hv).1
    simpa [ctV_list, hc] using this
  rw [h.cell, Nat.add_comm 2 j, buV_c hc hj, ← hv]
  simp
theorem bu_rp (hc : c.length = 17) (h : CsAt W b BuT (buV u n c p)) : W.rangeAt b 20 (ctV n p).toList := fun j v hv => by
  rw [h.cell, Nat.add_comm 20 j, buV_p hc, ← hv]
  simp
end
set_option maxRecDepth 100000 in
set_option maxHeartbeats 16000000 in
theorem bussame_c (F G : Nat → Prop) (b c : Nat) (X Y : Bs.B) (ns : X.u.out.length ≤ 900) (w : World) (hp : Bu F w b X) (hq : Bu G w c Y) :
    Calls Tryz.prog 11 #[.pointer (some ⟨b, 0, none⟩), .pointer (some ⟨c, 0, none⟩)] w fun e w' => e = .returned (.bool (sameB X Y)) ∧ Below w.heap.size w w' := by
  obtain ⟨g, hr, hpu⟩ := hp.ex
  obtain ⟨k, hs, hqu⟩ := hq.ex
  have HR := Lib.hid (fun (W : World) (hb : Below w.heap.size w W) => hr.low hb)
  have HS := Lib.hid (fun (W : World) (hb : Below w.heap.size w W) => hs.low hb)
  have HUS := Lib.hid (fun (W : World) (hb : Below w.heap.size w W) => usame_c (hpu.low hb) (hqu.low hb) ns)
  have HE1 := Lib.hid (eql_ct hp.okc hq.okc)
  have HE2 := Lib.hid (eql_pt hp.okp hq.okp)
  have HL := Lib.hid (And.intro (And.intro hp.okc.len hp.okp.len) (And.intro hq.okc.len hq.okp.len))
  have HV := Lib.hid (show sameB X Y = (decide (X.n = Y.n ∧ X.c = Y.c) && decide (X.n = Y.n ∧ X.p = Y.p) && sameU X.u Y.u) from rfl)
  generalize sameB X Y = res at *
  generalize decide (X.n = Y.n ∧ X.c = Y.c) = E1 at *
  generalize decide (X.n = Y.n ∧ X.p = Y.p) = E2 at *
  generalize sameU X.u Y.u = E3 at *
  clear hp hq hr hs hpu hqu ns
  go_enter Tryz.func11, Tryz.ntmps11
  go_upto_region 3 with fail
  have hs0 : Below w.heap.size w w.drew := below_dU (Below.refl _ _) 1
  refine wp_region_noPanic ?_
  refine wp_region_held (S := fun W => Below w.heap.size w W) (by kernel_rfl) ?_
  refine takeH (fuel := 31) (i := 0) (.pointer (some ⟨b, 0, none⟩)) ?_ rfl (by kernel_rfl) (by kernel_rfl) (by kernel_rfl) (fun _ _ _ h => h) (by kernel_rfl) (fun W hS => by go_simp) hs0 ?_ ?_
  rotate_left 1
  · go_simp
    exact rfl
  refine takeH (fuel := 30) (i := 1) (.pointer (some ⟨b, 0, none⟩)) ?_ rfl (by kernel_rfl) (by kernel_rfl) (by kernel_rfl) (fun _ _ _ h => h) (by kernel_rfl) (fun W hS => by go_simp) hs0 ?_ ?_
  rotate_left 1
  · go_simp
    exact rfl
  refine takeH (fuel := 29) (i := 2) (.pointer (some ⟨b, 2, none⟩)) ?_ rfl (by kernel_rfl) (by kernel_rfl) (by kernel_rfl) (fun _ _ _ h => h) (by kernel_rfl) (fun W hS => by go_simp) hs0 ?_ ?_
  rotate_left 1
  · go_simp
    exact rfl
  refine takeH (fuel := 28) (i := 3) (.agg (ctV X.n X.c)) ?_ rfl (by kernel_rfl) (by kernel_rfl) (by kernel_rfl) (fun _ _ _ h => h) (by kernel_rfl) (fun W hS => exec_midU CT _ rfl b 2 rfl _ _ (bu_rc HL.out.1.1 (HR.out W hS)) Tryz.underlying71 rfl (iCT HL.out.1.1)) hs0 ?_ ?_
  rotate_left 1
  · go_simp
    exact rfl
  refine takeH (fuel := 27) (i := 4) (.pointer (some ⟨c, 0, none⟩)) ?_ rfl (by kernel_rfl) (by kernel_rfl) (by kernel_rfl) (fun _ _ _ h => h) (by kernel_rfl) (fun W hS => by go_simp) hs0 ?_ ?_
  rotate_left 1
  · go_simp
    exact rfl
  refine takeH (fuel := 26) (i := 5) (.pointer (some ⟨c, 0, none⟩)) ?_ rfl (by kernel_rfl) (by kernel_rfl) (by kernel_rfl) (fun _ _ _ h => h) (by kernel_rfl) (fun W hS => by go_simp) hs0 ?_ ?_
  rotate_left 1
  · go_simp
    exact rfl
  refine takeH (fuel := 25) (i := 6) (.pointer (some ⟨c, 2, none⟩)) ?_ rfl (by kernel_rfl) (by kernel_rfl) (by kernel_rfl) (fun _ _ _ h => h) (by kernel_rfl) (fun W hS => by go_simp) hs0 ?_ ?_
  rotate_left 1
  · go_simp
    exact rfl
  refine takeH (fuel := 24) (i := 7) (.agg (ctV Y.n Y.c)) ?_ rfl (by kernel_rfl) (by kernel_rfl) (by kernel_rfl) (fun _ _ _ h => h) (by kernel_rfl) (fun W hS => exec_midU CT _ rfl c 2 rfl _ _ (bu_rc HL.out.2.1 (HS.out W hS)) Tryz.underlying71 rfl (iCT HL.out.2.1)) hs0 ?_ ?_
  rotate_left 1
  · go_simp
    exact rfl
  refine takeH (fuel := 23) (i := 8) (.bool E1) ?_ rfl (by kernel_rfl) (by kernel_rfl) (by kernel_rfl) (fun _ _ _ h => h) (by kernel_rfl) (fun W hS => exec_cmp .eql CT _ _ _ rfl _ _ rfl rfl guard_ct _ (HE1.out W)) hs0 ?_ ?_
  rotate_left 1
  · go_simp
    exact rfl
  refine takeH (fuel := 22) (i := 9) (.bool E1) ?_ rfl (by kernel_rfl) (by kernel_rfl) (by kernel_rfl) (fun _ _ _ h => h) (by kernel_rfl) (fun W hS => by go_simp) hs0 ?_ ?_
  rotate_left 1
  · go_simp
    exact rfl
  cases E1 with
  | false =>
    refine skipU (S := fun W => Below w.heap.size w W) (fuel := 21) (i := 10) ?_ rfl (by kernel_rfl) (by kernel_rfl) (by kernel_rfl) (fun _ _ _ h => h) (by kernel_rfl) hs0 ?_ ?_
    rotate_left 1
    · go_simp
      exact rfl
    refine skipU (S := fun W => Below w.heap.size w W) (fuel := 20) (i := 11) ?_ rfl (by kernel_rfl) (by kernel_rfl) (by kernel_rfl) (fun _ _ _ h => h) (by kernel_rfl) hs0 ?_ ?_
    rotate_left 1
    · go_simp
      exact rfl
    refine skipU (S := fun W => Below w.heap.size w W) (fuel := 19) (i := 12) ?_ rfl (by kernel_rfl) (by kernel_rfl) (by kernel_rfl) (fun _ _ _ h => h) (by kernel_rfl) hs0 ?_ ?_
    rotate_left 1
    · go_simp
      exact rfl
    refine skipU (S := fun W => Below w.heap.size w W) (fuel := 18) (i := 13) ?_ rfl (by kernel_rfl) (by kernel_rfl) (by kernel_rfl) (fun _ _ _ h => h) (by kernel_rfl) hs0 ?_ ?_
    rotate_left 1
    · go_simp
      exact rfl
    refine skipU (S := fun W => Below w.heap.size w W) (fuel := 17) (i := 14) ?_ rfl (by kernel_rfl) (by kernel_rfl) (by kernel_rfl) (fun _ _ _ h => h) (by kernel_rfl) hs0 ?_ ?_
    rotate_left 1
    · go_simp
      exact rfl
    refine skipU (S := fun W => Below w.heap.size w W) (fuel := 16) (i := 15) ?_ rfl (by kernel_rfl) (by kernel_rfl) (by kernel_rfl) (fun _ _ _ h => h) (by kernel_rfl) hs0 ?_ ?_
    rotate_left 1
    · go_simp
      exact rfl
    refine skipU (S := fun W => Below w.heap.size w W) (fuel := 15) (i := 16) ?_ rfl (by kernel_rfl) (by kernel_rfl) (by kernel_rfl) (fun _ _ _ h => h) (by kernel_rfl) hs0 ?_ ?_
    rotate_left 1
    · go_simp
      exact rfl
    refine skipU (S := fun W => Below w.heap.size w W) (fuel := 14) (i := 17) ?_ rfl (by kernel_rfl) (by kernel_rfl) (by kernel_rfl) (fun _ _ _ h => h) (by kernel_rfl) hs0 ?_ ?_
    rotate_left 1
    · go_simp
      exact rfl
    refine skipU (S := fun W => Below w.heap.size w W) (fuel := 13) (i := 18) ?_ rfl (by kernel_rfl) (by kernel_rfl) (by kernel_rfl) (fun _ _ _ h => h) (by kernel_rfl) hs0 ?_ ?_
    rotate_left 1
    · go_simp
      exact rfl
    refine takeH (fuel := 12) (i := 19) (.bool false) ?_ rfl (by kernel_rfl) (by kernel_rfl) (by kernel_rfl) (fun _ _ _ h => h) (by kernel_rfl) (fun W hS => by go_simp) hs0 ?_ ?_
    rotate_left 1
    · go_simp
      exact rfl
    refine takeH (fuel := 11) (i := 20) (.bool false) ?_ rfl (by kernel_rfl) (by kernel_rfl) (by kernel_rfl) (fun _ _ _ h => h) (by kernel_rfl) (fun W hS => by go_simp) hs0 ?_ ?_
    rotate_left 1
    · go_simp
      exact rfl
    refine skipU (S := fun W => Below w.heap.size w W) (fuel := 10) (i := 21) ?_ rfl (by kernel_rfl) (by kernel_rfl) (by kernel_rfl) (fun _ _ _ h => h) (by kernel_rfl) hs0 ?_ ?_
    rotate_left 1
    · go_simp
      exact rfl
    refine skipU (S := fun W => Below w.heap.size w W) (fuel := 9) (i := 22) ?_ rfl (by kernel_rfl) (by kernel_rfl) (by kernel_rfl) (fun _ _ _ h => h) (by kernel_rfl) hs0 ?_ ?_
    rotate_left 1
    · go_simp
      exact rfl
    refine skipU (S := fun W => Below w.heap.size w W) (fuel := 8) (i := 23) ?_ rfl (by kernel_rfl) (by kernel_rfl) (by kernel_rfl) (fun _ _ _ h => h) (by kernel_rfl) hs0 ?_ ?_
    rotate_left 1
    · go_simp
      exact rfl
    refine skipU (S := fun W => Below w.heap.size w W) (fuel := 7) (i := 24) ?_ rfl (by kernel_rfl) (by kernel_rfl) (by kernel_rfl) (fun _ _ _ h => h) (by kernel_rfl) hs0 ?_ ?_
    rotate_left 1
    · go_simp
      exact rfl
    refine skipU (S := fun W => Below w.heap.size w W) (fuel := 6) (i := 25) ?_ rfl (by kernel_rfl) (by kernel_rfl) (by kernel_rfl) (fun _ _ _ h => h) (by kernel_rfl) hs0 ?_ ?_
    rotate_left 1
    · go_simp
      exact rfl
    refine skipU (S := fun W => Below w.heap.size w W) (fuel := 5) (i := 26) ?_ rfl (by kernel_rfl) (by kernel_rfl) (by kernel_rfl) (fun _ _ _ h => h) (by kernel_rfl) hs0 ?_ ?_
    rotate_left 1
    · go_simp
      exact rfl
    refine skipU (S := fun W => Below w.heap.size w W) (fuel := 4) (i := 27) ?_ rfl (by kernel_rfl) (by kernel_rfl) (by kernel_rfl) (fun _ _ _ h => h) (by kernel_rfl) hs0 ?_ ?_
    rotate_left 1
    · go_simp
      exact rfl
    refine skipU (S := fun W => Below w.heap.size w W) (fuel := 3) (i := 28) ?_ rfl (by kernel_rfl) (by kernel_rfl) (by kernel_rfl) (fun _ _ _ h => h) (by kernel_rfl) hs0 ?_ ?_
    rotate_left 1
    · go_simp
      exact rfl
    refine skipU (S := fun W => Below w.heap.size w W) (fuel := 2) (i := 29) ?_ rfl (by kernel_rfl) (by kernel_rfl) (by kernel_rfl) (fun _ _ _ h => h) (by kernel_rfl) hs0 ?_ ?_
    rotate_left 1
    · go_simp
      exact rfl
    refine takeH (fuel := 1) (i := 30) (.bool false) ?_ rfl (by kernel_rfl) (by kernel_rfl) (by kernel_rfl) (fun _ _ _ h => h) (by kernel_rfl) (fun W hS => by go_simp) hs0 ?_ ?_
    rotate_left 1
    · go_simp
      exact rfl
    refine takeH (fuel := 0) (i := 31) (.bool false) ?_ rfl (by kernel_rfl) (by kernel_rfl) (by kernel_rfl) (fun _ _ _ h => h) (by kernel_rfl) (fun W hS => by go_simp) hs0 ?_ ?_
    rotate_left 1
    · go_simp
      exact rfl
    refine wpAnyH_done (by kernel_rfl) ?_ _
    refine NoPanic.normal ?_
    clear hs0
    go_wp2_with fail
    go_ret
    exact ⟨by rw [HV.out]; rfl, below_dU (Below.refl _ _) 1⟩
  | true =>
    refine takeH (fuel := 21) (i := 10) (.pointer (some ⟨b, 0, none⟩)) ?_ rfl (by kernel_rfl) (by kernel_rfl) (by kernel_rfl) (fun _ _ _ h => h) (by kernel_rfl) (fun W hS => by go_simp) hs0 ?_ ?_
    rotate_left 1
    · go_simp
      exact rfl
    refine takeH (fuel := 20) (i := 11) (.pointer (some ⟨b, 0, none⟩)) ?_ rfl (by kernel_rfl) (by kernel_rfl) (by kernel_rfl) (fun _ _ _ h => h) (by kernel_rfl) (fun W hS => by go_simp) hs0 ?_ ?_
    rotate_left 1
    · go_simp
      exact rfl
    refine takeH (fuel := 19) (i := 12) (.pointer (some ⟨b, 20, none⟩)) ?_ rfl (by kernel_rfl) (by kernel_rfl) (by kernel_rfl) (fun _ _ _ h => h) (by kernel_rfl) (fun W hS => by go_simp) hs0 ?_ ?_
    rotate_left 1
    · go_simp
      exact rfl
    refine takeH (fuel := 18) (i := 13) (.agg (ctV X.n X.p)) ?_ rfl (by kernel_rfl) (by kernel_rfl) (by kernel_rfl) (fun _ _ _ h => h) (by kernel_rfl) (fun W hS => exec_midU PT _ rfl b 20 rfl _ _ (bu_rp HL.out.1.1 (HR.out W hS)) Tryz.underlying76 rfl (iPT HL.out.1.2)) hs0 ?_ ?_
    rotate_left 1
    · go_simp
      exact rfl
    refine takeH (fuel := 17) (i := 14) (.pointer (some ⟨c, 0, none⟩)) ?_ rfl (by kernel_rfl) (by kernel_rfl) (by kernel_rfl) (fun _ _ _ h => h) (by kernel_rfl) (fun W hS => by go_simp) hs0 ?_ ?_
    rotate_left 1
    · go_simp
      exact rfl
    refine takeH (fuel := 16) (i := 15) (.pointer (some ⟨c, 0, none⟩)) ?_ rfl (by kernel_rfl) (by kernel_rfl) (by kernel_rfl) (fun _ _ _ h => h) (by kernel_rfl) (fun W hS => by go_simp) hs0 ?_ ?_
    rotate_left 1
    · go_simp
      exact rfl
    refine takeH (fuel := 15) (i := 16) (.pointer (some ⟨c, 20, none⟩)) ?_ rfl (by kernel_rfl) (by kernel_rfl) (by kernel_rfl) (fun _ _ _ h => h) (by kernel_rfl) (fun W hS => by go_simp) hs0 ?_ ?_
    rotate_left 1
    · go_simp
      exact rfl
    refine takeH (fuel := 14) (i := 17) (.agg (ctV Y.n Y.p)) ?_ rfl (by kernel_rfl) (by kernel_rfl) (by kernel_rfl) (fun _ _ _ h => h) (by kernel_rfl) (fun W hS => exec_midU PT _ rfl c 20 rfl _ _ (bu_rp HL.out.2.1 (HS.out W hS)) Tryz.underlying76 rfl (iPT HL.out.2.2)) hs0 ?_ ?_
    rotate_left 1
    · go_simp
      exact rfl
    refine takeH (fuel := 13) (i := 18) (.bool E2) ?_ rfl (by kernel_rfl) (by kernel_rfl) (by kernel_rfl) (fun _ _ _ h => h) (by kernel_rfl) (fun W hS => exec_cmp .eql PT _ _ _ rfl _ _ rfl rfl guard_pt _ (HE2.out W)) hs0 ?_ ?_
    rotate_left 1
    · go_simp
      exact rfl
    refine takeH (fuel := 12) (i := 19) (.bool E2) ?_ rfl (by kernel_rfl) (by kernel_rfl) (by kernel_rfl) (fun _ _ _ h => h) (by kernel_rfl) (fun W hS => by go_simp) hs0 ?_ ?_
    rotate_left 1
    · go_simp
      exact rfl
    refine takeH (fuel := 11) (i := 20) (.bool E2) ?_ rfl (by kernel_rfl) (by kernel_rfl) (by kernel_rfl) (fun _ _ _ h => h) (by kernel_rfl) (fun W hS => by go_simp) hs0 ?_ ?_
    rotate_left 1
    · go_simp
      exact rfl
    cases E2 with
    | false =>
      refine skipU (S := fun W => Below w.heap.size w W) (fuel := 10) (i := 21) ?_ rfl (by kernel_rfl) (by kernel_rfl) (by kernel_rfl) (fun _ _ _ h => h) (by kernel_rfl) hs0 ?_ ?_
      rotate_left 1
      · go_simp
        exact rfl
      refine skipU (S := fun W => Below w.heap.size w W) (fuel := 9) (i := 22) ?_ rfl (by kernel_rfl) (by kernel_rfl) (by kernel_rfl) (fun _ _ _ h => h) (by kernel_rfl) hs0 ?_ ?_
      rotate_left 1
      · go_simp
        exact rfl
      refine skipU (S := fun W => Below w.heap.size w W) (fuel := 8) (i := 23) ?_ rfl (by kernel_rfl) (by kernel_rfl) (by kernel_rfl) (fun _ _ _ h => h) (by kernel_rfl) hs0 ?_ ?_
      rotate_left 1
      · go_simp
        exact rfl
      refine skipU (S := fun W => Below w.heap.size w W) (fuel := 7) (i := 24) ?_ rfl (by kernel_rfl) (by kernel_rfl) (by kernel_rfl) (fun _ _ _ h => h) (by kernel_rfl) hs0 ?_ ?_
      rotate_left 1
      · go_simp
        exact rfl
      refine skipU (S := fun W => Below w.heap.size w W) (fuel := 6) (i := 25) ?_ rfl (by kernel_rfl) (by kernel_rfl) (by kernel_rfl) (fun _ _ _ h => h) (by kernel_rfl) hs0 ?_ ?_
      rotate_left 1
      · go_simp
        exact rfl
      refine skipU (S := fun W => Below w.heap.size w W) (fuel := 5) (i := 26) ?_ rfl (by kernel_rfl) (by kernel_rfl) (by kernel_rfl) (fun _ _ _ h => h) (by kernel_rfl) hs0 ?_ ?_
      rotate_left 1
      · go_simp
        exact rfl
      refine skipU (S := fun W => Below w.heap.size w W) (fuel := 4) (i := 27) ?_ rfl (by kernel_rfl) (by kernel_rfl) (by kernel_rfl) (fun _ _ _ h => h) (by kernel_rfl) hs0 ?_ ?_
      rotate_left 1
      · go_simp
        exact rfl
      refine skipU (S := fun W => Below w.heap.size w W) (fuel := 3) (i := 28) ?_ rfl (by kernel_rfl) (by kernel_rfl) (by kernel_rfl) (fun _ _ _ h => h) (by kernel_rfl) hs0 ?_ ?_
      rotate_left 1
      · go_simp
        exact rfl
      refine skipU (S := fun W => Below w.heap.size w W) (fuel := 2) (i := 29) ?_ rfl (by kernel_rfl) (by kernel_rfl) (by kernel_rfl) (fun _ _ _ h => h) (by kernel_rfl) hs0 ?_ ?_
      rotate_left 1
      · go_simp
        exact rfl
      refine takeH (fuel := 1) (i := 30) (.bool false) ?_ rfl (by kernel_rfl) (by kernel_rfl) (by kernel_rfl) (fun _ _ _ h => h) (by kernel_rfl) (fun W hS => by go_simp) hs0 ?_ ?_
      rotate_left 1
      · go_simp
        exact rfl
      refine takeH (fuel := 0) (i := 31) (.bool false) ?_ rfl (by kernel_rfl) (by kernel_rfl) (by kernel_rfl) (fun _ _ _ h => h) (by kernel_rfl) (fun W hS => by go_simp) hs0 ?_ ?_
      rotate_left 1
      · go_simp
        exact rfl
      refine wpAnyH_done (by kernel_rfl) ?_ _
      refine NoPanic.normal ?_
      clear hs0
      go_wp2_with fail
      go_ret
      exact ⟨by rw [HV.out]; rfl, below_dU (Below.refl _ _) 1⟩
    | true =>
      refine takeH (fuel := 10) (i := 21) (.pointer (some ⟨b, 0, none⟩)) ?_ rfl (by kernel_rfl) (by kernel_rfl) (by kernel_rfl) (fun _ _ _ h => h) (by kernel_rfl) (fun W hS => by go_simp) hs0 ?_ ?_
      rotate_left 1
      · go_simp
        exact rfl
      refine takeH (fuel := 9) (i := 22) (.pointer (some ⟨b, 0, none⟩)) ?_ rfl (by kernel_rfl) (by kernel_rfl) (by kernel_rfl) (fun _ _ _ h => h) (by kernel_rfl) (fun W hS => by go_simp) hs0 ?_ ?_
      rotate_left 1
      · go_simp
        exact rfl
      refine takeH (fuel := 8) (i := 23) (.pointer (some ⟨b, 0, none⟩)) ?_ rfl (by kernel_rfl) (by kernel_rfl) (by kernel_rfl) (fun _ _ _ h => h) (by kernel_rfl) (fun W hS => by go_simp) hs0 ?_ ?_
      rotate_left 1
      · go_simp
        exact rfl
      refine takeH (fuel := 7) (i := 24) (.pointer (some ⟨g, 0, none⟩)) ?_ rfl (by kernel_rfl) (by kernel_rfl) (by kernel_rfl) (fun _ _ _ h => h) (by kernel_rfl) (fun W hS => by (have q := (HR.out W hS).cell 0; rw [buV_u] at q; go_simp)) hs0 ?_ ?_
      rotate_left 1
      · go_simp
        exact rfl
      refine takeH (fuel := 6) (i := 25) (.pointer (some ⟨c, 0, none⟩)) ?_ rfl (by kernel_rfl) (by kernel_rfl) (by kernel_rfl) (fun _ _ _ h => h) (by kernel_rfl) (fun W hS => by go_simp) hs0 ?_ ?_
      rotate_left 1
      · go_simp
        exact rfl
      refine takeH (fuel := 5) (i := 26) (.pointer (some ⟨c, 0, none⟩)) ?_ rfl (by kernel_rfl) (by kernel_rfl) (by kernel_rfl) (fun _ _ _ h => h) (by kernel_rfl) (fun W hS => by go_simp) hs0 ?_ ?_
      rotate_left 1
      · go_simp
        exact rfl
      refine takeH (fuel := 4) (i := 27) (.pointer (some ⟨c, 0, none⟩)) ?_ rfl (by kernel_rfl) (by kernel_rfl) (by kernel_rfl) (fun _ _ _ h => h) (by kernel_rfl) (fun W hS => by go_simp) hs0 ?_ ?_
      rotate_left 1
      · go_simp
        exact rfl
      refine takeH (fuel := 3) (i := 28) (.pointer (some ⟨k, 0, none⟩)) ?_ rfl (by kernel_rfl) (by kernel_rfl) (by kernel_rfl) (fun _ _ _ h => h) (by kernel_rfl) (fun W hS => by (have q := (HS.out W hS).cell 0; rw [buV_u] at q; go_simp)) hs0 ?_ ?_
      rotate_left 1
      · go_simp
        exact rfl
      refine wpAnyH_all (fuel := 2) (rs := [29]) (by kernel_rfl) (by decide) ?_
      intro i hi
      obtain rfl : i = 29 := by simpa using hi
      refine wpOp_callX 48 #[.pointer (some ⟨g, 0, none⟩), .pointer (some ⟨k, 0, none⟩)] rfl (by kernel_rfl) (by go_simp) ?_
      refine (HUS.out _ hs0).mono ?_
      rintro e w2 ⟨rfl, hb2⟩
      have hs1 : Below w.heap.size w w2 := hs0.trans (hb2.mono hs0.size)
      have HB2 := Lib.hid hs1
      refine ⟨_, rfl, hs1, ?_⟩
      refine takeH (fuel := 1) (i := 30) (.bool E3) ?_ rfl (by kernel_rfl) (by kernel_rfl) (by kernel_rfl) (fun _ _ _ h => h) (by kernel_rfl) (fun W hS => by go_simp) hs1 ?_ ?_
      rotate_left 1
      · go_simp
        exact rfl
      refine takeH (fuel := 0) (i := 31) (.bool E3) ?_ rfl (by kernel_rfl) (by kernel_rfl) (by kernel_rfl) (fun _ _ _ h => h) (by kernel_rfl) (fun W hS => by go_simp) hs1 ?_ ?_
      rotate_left 1
      · go_simp
        exact rfl
      refine wpAnyH_done (by kernel_rfl) ?_ _
      refine NoPanic.normal ?_
      clear hs0 hs1 hb2
      go_wp2_with fail
      go_ret
      exact ⟨by rw [HV.out]; simp, HB2.out⟩
end Go.Proofs.YtfjdalepaacmgaaGreat
set_option maxRecDepth 20000
namespace Go.Proofs.YtfjdalepaacmgaaGreat
open Go.ChangeShapes Go.WideShapes Go.ChangeAt Go.RowKit

theorem formed_15 {n : Nat} {ws : List Int} (h : ws.length = 17) : Value.formed Tryz.prog X15 (.agg (x15V n ws)) = true := formed_sized (k := 18) (x15_size n ws h) (by kernel_rfl)
theorem formed_16 {n : Nat} {ws : List Int} : Value.formed Tryz.prog X16 (.agg (x16V n ws)) = true := formed_sized (k := 657) (x16_size' n ws) (by kernel_rfl)
theorem eql_15 {n m : Nat} {a b : List Int} (ha : Ct.Ok n a) (hb : Ct.Ok m b) (w : World) : (binOp .eql X15 (.agg (x15V n a)) (.agg (x15V m b))).run Tryz.prog w = .ok (.bool (decide (n = m ∧ a = b))) w := by
  have := Eqf.beql w 6 (by omega) X15 ks15 (by kernel_rfl) (by kernel_rfl) (x15V n a) (x15V m b) (formed_15 ha.len) (formed_15 hb.len) (okL_15 ha) (okL_15 hb)
  rwa [show Eqf.eqL (x15V n a).toList (x15V m b).toList = decide (n = m ∧ a = b) by rw [Bool.eq_iff_iff, eq_15 ha hb]; simp] at this
set_option maxRecDepth 100000 in
theorem flat_16 : Eqf.flat Tryz.prog 6 X16 = some ((List.range 657).map kx16) := by kernel_rfl
theorem eql_16 {n m : Nat} {a b : List Int} (ha : Pc.Ok n a) (hb : Pc.Ok m b) (w : World) : (binOp .eql X16 (.agg (x16V n a)) (.agg (x16V m b))).run Tryz.prog w = .ok (.bool (decide (n = m ∧ a = b))) w := by
  have := Eqf.beql w 6 (by omega) X16 ((List.range 657).map kx16) (by kernel_rfl) flat_16 (x16V n a) (x16V m b) formed_16 formed_16 (okL_16 ha) (okL_16 hb)
  rwa [show Eqf.eqL (x16V n a).toList (x16V m b).toList = decide (n = m ∧ a = b) by rw [Bool.eq_iff_iff, eq_16 ha hb]; simp] at this
theorem guard_15 : Tryz.prog.eqGuardType Tryz.prog.depth X15 = false := by kernel_rfl
theorem guard_16 : Tryz.prog.eqGuardType Tryz.prog.depth X16 = false := by kernel_rfl
theorem wpList_load_partW {P : Program} {ops : Array Oper} {rest : List Oper} {op : Oper} {a : Act} {w : World} {Q : Exit → Act → World → Prop} (hw : Region.wanted op (yielded ops a.tmps) = true) (ty : TypeId) (x : Operand) (ho : op.op = .load ty x)
    (b o : Nat) (hx : a.eval x = .pointer (some ⟨b, o, none⟩)) (cs : Array Value) (d : TypeDesc) (hc : w.rangeAt b o cs.toList)
    (hu : P.underlying ty = some d) (hd : d.isRow = true) (hi : (P.info? ty).map (·.size) = some cs.size)
    (h : wpList P ops Q rest (a.put op.dst (.agg cs)) w) : wpList P ops Q (op :: rest) a w :=
  wpList_load_midW hw ty x ho b o hx cs.toList d hc hu hd (by simpa using hi) (by simpa using h)
set_option maxRecDepth 100000 in
set_option maxHeartbeats 16000000 in
theorem rsameB_c (G H : Nat → Prop) (X Y : Bs.B) (iv ov jv qv : Value) (w : World) (oc : Ct.Ok X.n X.c) (op : Pc.Ok X.n X.p) (pc : Ct.Ok Y.n Y.c) (pp : Pc.Ok Y.n Y.p)
    (hi : VwG G w iv X.u.q) (ho : VwG G w ov X.u.out) (hj : VwG H w jv Y.u.q) (hq : VwG H w qv Y.u.out) (n1 : X.u.q.length ≤ 900) (n2 : X.u.out.length ≤ 900) :
    Calls Tryz.prog 12 #[.agg (xbX X (xuV X.u iv ov)), .agg (xbX Y (xuV Y.u jv qv))] w fun e w' => e = .returned (.bool (sameB X Y)) ∧ Below w.heap.size w w' := by
  have hba : Below w.heap.size w ((w.alloc (.cells (xbX X (xuV X.u iv ov)) BxT)).alloc (.cells (xbX Y (xuV Y.u jv qv)) BxT)) := ((Below.refl _ _).alloc (Nat.le_refl _) _).alloc (by simp) _
  have hr1 : CsAt ((w.alloc (.cells (xbX X (xuV X.u iv ov)) BxT)).alloc (.cells (xbX Y (xuV Y.u jv qv)) BxT)) w.heap.size BxT (xbX X (xuV X.u iv ov)) := (CsAt.new w BxT _).alloc _
  have hr2 : CsAt ((w.alloc (.cells (xbX X (xuV X.u iv ov)) BxT)).alloc (.cells (xbX Y (xuV Y.u jv qv)) BxT)) (w.heap.size + 1) BxT (xbX Y (xuV Y.u jv qv)) := by
    have := CsAt.new (w.alloc (.cells (xbX X (xuV X.u iv ov)) BxT)) BxT (xbX Y (xuV Y.u jv qv))
    rwa [show (w.alloc (.cells (xbX X (xuV X.u iv ov)) BxT)).heap.size = w.heap.size + 1 by simp] at this
  have HB := Lib.hid hba
  have HR1 := Lib.hid hr1
  have HR2 := Lib.hid hr2
  have HSU := Lib.hid (fun W (hb : Below w.heap.size w W) => rsame_c G H X.u Y.u iv ov jv qv W (hi.low hb) (ho.low hb) (hj.low hb) (hq.low hb) n1 n2)
  have HE1 := Lib.hid (eql_15 oc pc)
  have HE2 := Lib.hid (eql_16 op pp)
  have HV := Lib.hid (show sameB X Y = (decide (X.n = Y.n ∧ X.c = Y.c) && decide (X.n = Y.n ∧ X.p = Y.p) && sameU X.u Y.u) from rfl)
  have z1 := x15_size X.n X.c oc.len
  have z2 := x15_size Y.n Y.c pc.len
  have i1 := Lib.hid (iX15B X.n X.c oc.len)
  have i2 := Lib.hid (iX15B Y.n Y.c pc.len)
  have Z1 := Lib.hid z1
  have Z2 := Lib.hid z2
  have HN := Lib.hid (show ((X.n : Int) == (Y.n : Int)) = false → sameB X Y = false from fun h => by
    have : ¬ X.n = Y.n := fun e => by rw [e] at h; simp at h
    simp [sameB, this])
  obtain ⟨e0, he0⟩ : ∃ e, ((X.n : Int) == (Y.n : Int)) = e := ⟨_, rfl⟩
  rw [he0] at HN
  generalize sameB X Y = res at *
  generalize decide (X.n = Y.n ∧ X.c = Y.c) = E1 at *
  generalize decide (X.n = Y.n ∧ X.p = Y.p) = E2 at *
  generalize sameU X.u Y.u = E3 at *
  clear hba hr1 hr2 z1 z2 hi ho hj hq n1 n2 oc op pc pp
  go_enter Tryz.func12, Tryz.ntmps12
  go_upto_region 1 with fail
  generalize (w.alloc (.cells (xbX X (xuV X.u iv ov)) BxT)).alloc (.cells (xbX Y (xuV Y.u jv qv)) BxT) = w1 at *
  have a0 := xb_at0 HR1.out
  have b0 := xb_at0 HR2.out
  cases e0 with
  | false =>
    go_wp2_with fail
    go_ret
    exact ⟨by rw [HN.out trivial]; rfl, HB.out⟩
  | true =>
    clear HN
    cases E1 with
    | false =>
      go_wp2_with (first
        | (refine wpList_load_partW (by rfl) X15 _ rfl w.heap.size 1 rfl (x15V X.n X.c) _ (xb_rc HR1.out) Tryz.underlying42 rfl i1.out ?_)
        | (refine wpList_load_partW (by rfl) X15 _ rfl (w.heap.size + 1) 1 rfl (x15V Y.n Y.c) _ (xb_rc HR2.out) Tryz.underlying42 rfl i2.out ?_)
        | (refine wpList_cmpW (by rfl) .eql X15 _ _ _ rfl (x15V X.n X.c) (x15V Y.n Y.c) rfl rfl guard_15 _ (HE1.out _) ?_))
      go_ret
      exact ⟨by rw [HV.out]; rfl, HB.out⟩
    | true =>
      cases E2 with
      | false =>
        go_wp2_with (first
          | (refine wpList_load_partW (by rfl) X15 _ rfl w.heap.size 1 rfl (x15V X.n X.c) _ (xb_rc HR1.out) Tryz.underlying42 rfl i1.out ?_)
          | (refine wpList_load_partW (by rfl) X15 _ rfl (w.heap.size + 1) 1 rfl (x15V Y.n Y.c) _ (xb_rc HR2.out) Tryz.underlying42 rfl i2.out ?_)
          | (refine wpList_load_partW (by rfl) X16 _ rfl w.heap.size 19 rfl (x16V X.n X.p) _ (xb_rp Z1.out HR1.out) Tryz.underlying48 rfl iX16 ?_)
          | (refine wpList_load_partW (by rfl) X16 _ rfl (w.heap.size + 1) 19 rfl (x16V Y.n Y.p) _ (xb_rp Z2.out HR2.out) Tryz.underlying48 rfl iX16 ?_)
          | (refine wpList_cmpW (by rfl) .eql X15 _ _ _ rfl (x15V X.n X.c) (x15V Y.n Y.c) rfl rfl guard_15 _ (HE1.out _) ?_)
          | (refine wpList_cmpW (by rfl) .eql X16 _ _ _ rfl (x16V X.n X.p) (x16V Y.n Y.p) rfl rfl guard_16 _ (HE2.out _) ?_))
        go_ret
        exact ⟨by rw [HV.out]; rfl, HB.out⟩
      | true =>
        go_wp2_with (first
          | (refine wpList_load_partW (by rfl) X15 _ rfl w.heap.size 1 rfl (x15V X.n X.c) _ (xb_rc HR1.out) Tryz.underlying42 rfl i1.out ?_)
          | (refine wpList_load_partW (by rfl) X15 _ rfl (w.heap.size + 1) 1 rfl (x15V Y.n Y.c) _ (xb_rc HR2.out) Tryz.underlying42 rfl i2.out ?_)
          | (refine wpList_load_partW (by rfl) X16 _ rfl w.heap.size 19 rfl (x16V X.n X.p) _ (xb_rp Z1.out HR1.out) Tryz.underlying48 rfl iX16 ?_)
          | (refine wpList_load_partW (by rfl) X16 _ rfl (w.heap.size + 1) 19 rfl (x16V Y.n Y.p) _ (xb_rp Z2.out HR2.out) Tryz.underlying48 rfl iX16 ?_)
          | (refine wpList_load_partW (by rfl) X17 _ rfl w.heap.size 676 rfl (xuV X.u iv ov) _ (xb_ru Z1.out (x16_size' _ _) HR1.out) Tryz.underlying51 rfl (iX17V _ _ _) ?_)
          | (refine wpList_load_partW (by rfl) X17 _ rfl (w.heap.size + 1) 676 rfl (xuV Y.u jv qv) _ (xb_ru Z2.out (x16_size' _ _) HR2.out) Tryz.underlying51 rfl (iX17V _ _ _) ?_)
          | (refine wpList_cmpW (by rfl) .eql X15 _ _ _ rfl (x15V X.n X.c) (x15V Y.n Y.c) rfl rfl guard_15 _ (HE1.out _) ?_)
          | (refine wpList_cmpW (by rfl) .eql X16 _ _ _ rfl (x16V X.n X.p) (x16V Y.n Y.p) rfl rfl guard_16 _ (HE2.out _) ?_))
        refine (HSU.out _ HB.out).mono ?_
        rintro e w2 ⟨rfl, hb2⟩
        have HB2 := Lib.hid (HB.out.trans (hb2.mono HB.out.size))
        clear hb2 a0 b0 he0
        go_wp2_with fail
        go_ret
        exact ⟨by rw [HV.out]; simp, HB2.out⟩
end Go.Proofs.YtfjdalepaacmgaaGreat
