/-
  Contracts of the reference of layer 12: Take, Drop.
-/
import Derived.Test.YtgegahnjhaldeaaRlB
namespace Go.Proofs.Ytgegahnjhaldeaa
open Go.ChangeShapes Go.WideShapes Go.ChangeAt Go.RowKit
variable {Z : Nat → Prop}

namespace Lk
theorem takeT_no {R : Int → List Int} {n : Nat} {who at_ : Int} (h : has who at_ n = false) : takeT R n who at_ = false := by unfold takeT; rw [h]; rfl
theorem take_no {R : Int → List Int} {n : Nat} {who at_ : Int} (h : has who at_ n = false) : take R n who at_ = R := by unfold take; rw [h]; simp
theorem dropT_no {R : Int → List Int} {n : Nat} (hok : Ok R n) {who at_ : Int} (h : has who at_ n = false) : dropT R who at_ = false := by
  unfold dropT
  by_cases e : R at_ = []
  · simp [e]
  · have h1 := in_range hok e
    have hne : (R at_).getD 0 0 ∈ R at_ := by
      cases hr : R at_ with
      | nil => exact absurd hr e
      | cons a l => simp
    have h2 := hok.who _ _ hne
    have : ((R at_).getD 0 0 == who) = false := by
      rw [beq_eq_false_iff_ne]
      rintro rfl
      have := has_iff (n := n).2 ⟨h2.1, h2.2, h1.1, h1.2⟩
      rw [h] at this
      cases this
    rw [this, Bool.and_false]
theorem hd_ne {R : Int → List Int} {at_ who : Int} {x : Int} {t : List Int} (e : R at_ = x :: t) : (hd (R at_) == who) = (x == who) := by rw [e]; rfl
end Lk
theorem OneAt.refl {b : Nat} (w : World) : OneAt b w w := OneAt.of_below (Below.refl _ _)
set_option maxRecDepth 100000 in
set_option maxHeartbeats 4000000 in
theorem rtake_c (rb n cap : Nat) (R : Int → List Int) (who at_ : Int) (w : World) (h : RlAt Z w rb n R) (hok : Lk.Ok R n) :
    Calls Try.prog 13 #[.slice (some ⟨rb, 0, none⟩) n cap, .int .i64 who, .int .i64 at_] w fun e w' => e = .returned (.bool (Lk.takeT R n who at_)) ∧ RlAt (ZN Z w w') w' rb n (Lk.take R n who at_) ∧ OneAt rb w w' := by
  have HH := Lib.hid h
  clear h
  have HRC := Lib.hid (right_c (some ⟨rb, 0, none⟩) n cap who at_ w)
  cases hh : Lk.has who at_ n
  · have HT := Lib.hid (Lk.takeT_no (R := R) hh)
    have HN := Lib.hid (Lk.take_no (R := R) hh)
    rw [hh] at HRC
    clear hh
    go_enter Try.func13, Try.ntmps13
    go_wp2_with fail
    refine HRC.out.mono ?_
    rintro e w' ⟨rfl, rfl⟩
    go_wp2_with fail
    go_ret
    rw [HT.out, HN.out]
    exact ⟨rfl, HH.out.weak fun k hk => .inl hk, OneAt.refl _⟩
  · obtain ⟨a1, a2, a3, a4⟩ := Lk.has_iff.1 hh
    rw [hh] at HRC
    have HHH := Lib.hid hh
    clear hh
    obtain ⟨k, rfl⟩ := Int.eq_ofNat_of_zero_le a3
    have hk : k < n := by omega
    have c0 := HH.out.hold k hk
    have f0 := HH.out.froz (k * 2)
    obtain ⟨p, cq, c1, hv, hp, hc⟩ := HH.out.que k hk
    have HV := Lib.hid hv
    clear hv
    cases hr : R (k : Int) with
    | nil =>
      rw [hr] at c0 c1
      have HN := Lib.hid (show Lk.take R n who (k : Int) = Lk.upd R (k : Int) [who] by unfold Lk.take; rw [HHH.out, hr]; simp)
      have HT := Lib.hid (show Lk.takeT R n who (k : Int) = true by unfold Lk.takeT; rw [HHH.out, HN.out, Lk.upd_same]; simp)
      have HS := Lib.hid ((HH.out.setH hk who).congr (H' := fun i => Lk.hd (Lk.upd R (k : Int) [who] i)) (Q' := fun i => (Lk.upd R (k : Int) [who] i).tail) (fun i hi => by
          by_cases e : i = k
          · subst e; rw [Lk.updN_same]; simp only [Lk.upd_same]; rfl
          · rw [Lk.updN_other _ _ e]; simp only [Lk.upd_other R _ (show (i : Int) ≠ (k : Int) by omega)]) (fun i hi => by
          by_cases e : i = k
          · subst e; simp only [Lk.upd_same]; rw [hr]; rfl
          · simp only [Lk.upd_other R _ (show (i : Int) ≠ (k : Int) by omega)]))
      have c0' : w.cell? ⟨rb, k * 2, none⟩ = some (.int .i64 (-1)) := c0
      have ge : ((-1 : Int) == who) = false := beq_eq_false_iff_ne.2 (by omega)
      clear c0 c1 hp hc HV hr
      go_enter Try.func13, Try.ntmps13
      go_wp2_with fail
      refine HRC.out.mono ?_
      rintro e w' ⟨rfl, rfl⟩
      go_wp2_with fail
      go_ret
      rw [HT.out, HN.out]
      exact ⟨rfl, HS.out.weak fun k hk => .inl hk, OneAt.setCell _ _ _⟩
    | cons x t =>
      rw [hr] at c0 c1 HV hc
      have hx := hok.who (k : Int) x (by rw [hr]; simp)
      have c0' : w.cell? ⟨rb, k * 2, none⟩ = some (.int .i64 x) := c0
      have c1' : w.cell? ⟨rb, k * 2 + 1, none⟩ = some (.slice p t.length cq) := c1
      have HVt := Lib.hid (show Vw w p (iV t) from HV.out)
      have hct : t.length ≤ cq := hc
      have hl8 : t.length ≤ 8 := by have := hok.len (k : Int); rw [hr] at this; simp at this; omega
      clear c0 c1 HV hc
      by_cases he : x = who
      · subst he
        have HN := Lib.hid (show Lk.take R n x (k : Int) = R by unfold Lk.take; rw [HHH.out, hr]; simp)
        have HT := Lib.hid (show Lk.takeT R n x (k : Int) = true by unfold Lk.takeT; rw [HHH.out, HN.out, hr]; simp)
        clear hr hp
        go_enter Try.func13, Try.ntmps13
        go_wp2_with fail
        refine HRC.out.mono ?_
        rintro e w' ⟨rfl, rfl⟩
        go_wp2_with fail
        go_ret
        rw [HT.out, HN.out]
        exact ⟨rfl, HH.out.weak fun k hk => .inl hk, OneAt.refl _⟩
      have ge : (x == who) = false := beq_eq_false_iff_ne.2 he
      have gx : decide (x < 0) = false := by simp; omega
      have HIN := Lib.hid (rin_c p cq t who w HVt.out (by omega))
      cases hin : t.any fun y => who == y
      · rw [hin] at HIN
        have HN := Lib.hid (show Lk.take R n who (k : Int) = Lk.upd R (k : Int) (x :: t ++ [who]) by
          unfold Lk.take
          rw [HHH.out, hr, List.any_cons, hin, show (who == x) = false from beq_eq_false_iff_ne.2 (Ne.symm he)]
          simp)
        have HT := Lib.hid (show Lk.takeT R n who (k : Int) = false by unfold Lk.takeT; rw [HHH.out, HN.out, Lk.upd_same]; simpa using he)
        clear hin
        go_enter Try.func13, Try.ntmps13
        go_wp2_with fail
        refine HRC.out.mono ?_
        rintro e w' ⟨rfl, rfl⟩
        go_wp2_with fail
        refine HIN.out.mono ?_
        rintro e w' ⟨rfl, rfl⟩
        have hlt := HH.out.lt
        have HA := Lib.hid (alloc_below w (.cells #[] 3))
        have c1a := (HA.out.cell (p := ⟨rb, k * 2 + 1, none⟩) hlt).trans c1'
        have HO := Lib.hid (World.ownsRow_lit (base := w.heap.size) (e := 3) (size := 1) w #[] 0 (Nat.le_refl _) (Nat.zero_le _) rfl)
        have HVa := Lib.hid (HVt.out.low HA.out)
        have hsa := HA.out.size
        go_wp2_with (at_builtin; refine wpList_cat rfl _ _ 36 rfl w.heap.size 3 _ 1 8 Try.underlying36 info_intL rfl (by omega) (by omega) _ 0 [] rfl HO.out _ t.length cq (iV t) rfl HVa.out (by simp) (fun u hu => by obtain ⟨x, -, rfl⟩ := List.mem_map.1 hu; rfl) (by omega) hsa ?_)
        intro v2 w2 hown2 hb2
        have HB2 := Lib.hid (HA.out.trans hb2)
        have HO2 := Lib.hid hown2
        have hs2 := HB2.out.size
        clear hown2 hb2 c1a HO HVa hsa HA
        go_wp2_with (at_builtin; refine wpList_push rfl _ _ 36 rfl w.heap.size 3 _ 1 8 Try.underlying36 info_intL rfl (by omega) (by omega) _ t.length _ rfl HO2.out #[.int .i64 who] rfl (one_int who) _ rfl rfl (by omega) hs2 ?_)
        intro v3 w3 hown3 hb3
        obtain ⟨p3, cap3, rfl, hv3, hp3, hc3⟩ := own_form3 hown3
        have HB3 := Lib.hid (HB2.out.trans hb3)
        have c1b := (HB3.out.cell (p := ⟨rb, k * 2 + 1, none⟩) hlt).trans c1'
        have f1b := (World.frozen?_of_block (a := ⟨rb, k * 2 + 1, none⟩) (HB3.out.block rb hlt)).trans (HH.out.froz (k * 2 + 1))
        have HR3 := Lib.hid (HH.out.keep (Y := ZN Z w w3) HB3.out.size (fun k _ hk => HB3.out.block k hk) (fun k hk => .inl hk))
        have HS := Lib.hid ((HR3.out.setQ hk (xs := t ++ [who]) (cap := cap3) (p := p3) (by simpa using hv3) (hp3.imp id fun ⟨b, e, e1, e2⟩ => ⟨b, e, by omega, e2, .inr ⟨e1, e2⟩⟩) (by simpa using hc3)).congr (H' := fun i => Lk.hd (Lk.upd R (k : Int) (x :: t ++ [who]) i)) (Q' := fun i => (Lk.upd R (k : Int) (x :: t ++ [who]) i).tail) (fun i hi => by
          by_cases e : i = k
          · subst e; simp only [Lk.upd_same]; rw [hr]; rfl
          · simp only [Lk.upd_other R _ (show (i : Int) ≠ (k : Int) by omega)]) (fun i hi => by
          by_cases e : i = k
          · subst e; rw [Lk.updN_same]; simp only [Lk.upd_same]; rfl
          · rw [Lk.updN_other _ _ e]; simp only [Lk.upd_other R _ (show (i : Int) ≠ (k : Int) by omega)]))
        rw [show (t ++ [who]).length = t.length + 1 by simp] at HS
        have HOA := Lib.hid ((OneAt.of_below (b := rb) HB3.out).trans (OneAt.setCell w3 (k * 2 + 1) (.slice p3 (t.length + 1) cap3)))
        clear hown3 hb3 hv3 hp3 hr hp HR3 HO2 HB2
        go_wp2_with fail
        go_ret
        rw [HT.out, HN.out]
        exact ⟨rfl, HS.out.weak fun k hk => hk.imp id fun h => ⟨h.1, by rw [World.size_setCell]; exact h.2⟩, HOA.out⟩
      · rw [hin] at HIN
        have HN := Lib.hid (show Lk.take R n who (k : Int) = R by
          unfold Lk.take
          rw [HHH.out, hr, List.any_cons, hin]
          simp)
        have HT := Lib.hid (show Lk.takeT R n who (k : Int) = false by unfold Lk.takeT; rw [HHH.out, HN.out, hr]; simpa using he)
        clear hin hr hp
        go_enter Try.func13, Try.ntmps13
        go_wp2_with fail
        refine HRC.out.mono ?_
        rintro e w' ⟨rfl, rfl⟩
        go_wp2_with fail
        refine HIN.out.mono ?_
        rintro e w' ⟨rfl, rfl⟩
        go_wp2_with fail
        go_ret
        rw [HT.out, HN.out]
        exact ⟨rfl, HH.out.weak fun k hk => .inl hk, OneAt.refl _⟩
set_option maxRecDepth 100000 in
set_option maxHeartbeats 4000000 in
theorem rdrop_c (rb n cap : Nat) (R : Int → List Int) (who at_ : Int) (w : World) (h : RlAt Z w rb n R) (hok : Lk.Ok R n) :
    Calls Try.prog 11 #[.slice (some ⟨rb, 0, none⟩) n cap, .int .i64 who, .int .i64 at_] w fun e w' => e = .returned (.bool (Lk.dropT R who at_)) ∧ RlAt (ZN Z w w') w' rb n (Lk.drop R who at_) ∧ OneAt rb w w' := by
  have HH := Lib.hid h
  clear h
  have HRC := Lib.hid (right_c (some ⟨rb, 0, none⟩) n cap who at_ w)
  cases hh : Lk.has who at_ n
  · have HT := Lib.hid (Lk.dropT_no hok hh)
    have HN := Lib.hid (show Lk.drop R who at_ = R by unfold Lk.drop; rw [HT.out]; simp)
    rw [hh] at HRC
    clear hh
    go_enter Try.func11, Try.ntmps11
    go_wp2_with fail
    refine HRC.out.mono ?_
    rintro e w' ⟨rfl, rfl⟩
    go_wp2_with fail
    go_ret
    rw [HT.out, HN.out]
    exact ⟨rfl, HH.out.weak fun k hk => .inl hk, OneAt.refl _⟩
  obtain ⟨a1, a2, a3, a4⟩ := Lk.has_iff.1 hh
  rw [hh] at HRC
  clear hh
  obtain ⟨k, rfl⟩ := Int.eq_ofNat_of_zero_le a3
  have hk : k < n := by omega
  have c0 := HH.out.hold k hk
  have f0 := HH.out.froz (k * 2)
  obtain ⟨p, cq, c1, hv, hp, hc⟩ := HH.out.que k hk
  have HV := Lib.hid hv
  clear hv
  by_cases he : Lk.hd (R (k : Int)) = who
  · cases hr : R (k : Int) with
    | nil => rw [hr] at he; simp only [Lk.hd] at he; omega
    | cons x t =>
      rw [hr] at c0 c1 HV hc he
      obtain rfl : x = who := he
      have c0' : w.cell? ⟨rb, k * 2, none⟩ = some (.int .i64 x) := c0
      have c1' : w.cell? ⟨rb, k * 2 + 1, none⟩ = some (.slice p t.length cq) := c1
      have HVt := Lib.hid (show Vw w p (iV t) from HV.out)
      have hct : t.length ≤ cq := hc
      have hl8 : t.length ≤ 8 := by have := hok.len (k : Int); rw [hr] at this; simp at this; omega
      have HT := Lib.hid (show Lk.dropT R x (k : Int) = true by unfold Lk.dropT; rw [hr]; simp)
      have HN := Lib.hid (show Lk.drop R x (k : Int) = Lk.upd R (k : Int) t by unfold Lk.drop; rw [HT.out, hr]; simp)
      have ge : (x == x) = true := by simp
      clear c0 c1 HV hc
      cases t with
      | nil =>
        have HS := Lib.hid ((HH.out.setH hk (-1)).congr (H' := fun i => Lk.hd (Lk.upd R (k : Int) [] i)) (Q' := fun i => (Lk.upd R (k : Int) [] i).tail) (fun i hi => by
          by_cases e : i = k
          · subst e; rw [Lk.updN_same]; simp only [Lk.upd_same]; rfl
          · rw [Lk.updN_other _ _ e]; simp only [Lk.upd_other R _ (show (i : Int) ≠ (k : Int) by omega)]) (fun i hi => by
          by_cases e : i = k
          · subst e; simp only [Lk.upd_same]; rw [hr]; rfl
          · simp only [Lk.upd_other R _ (show (i : Int) ≠ (k : Int) by omega)]))
        rw [show ([] : List Int).length = 0 from rfl] at c1'
        clear hr hp
        go_enter Try.func11, Try.ntmps11
        go_wp2_with fail
        refine HRC.out.mono ?_
        rintro e w' ⟨rfl, rfl⟩
        go_wp2_with fail
        go_ret
        rw [HT.out, HN.out]
        exact ⟨rfl, HS.out.weak fun k hk => .inl hk, OneAt.setCell _ _ _⟩
      | cons y t =>
        obtain ⟨b, rfl, hbr, hbl, hbz⟩ : ∃ b, p = some ⟨b, 0, none⟩ ∧ b ≠ rb ∧ b < w.heap.size ∧ Z b := by
          rcases hp with ⟨rfl, hcq⟩ | h
          · simp at hct; omega
          · exact h
        have hcl : ∀ j, j < (y :: t).length → w.cell? ⟨b, j, none⟩ = some (.int .i64 ((y :: t).getD j 0)) := by
          obtain ⟨b', off', e, hbl', hcl⟩ := HVt.out.cells (by simp)
          cases e
          intro j hj
          have := hcl j hj
          rwa [Nat.zero_add] at this
        have cy : w.cell? ⟨b, 0, none⟩ = some (.int .i64 y) := hcl 0 (by simp)
        rw [show (y :: t).length = t.length + 1 from rfl] at c1' hct hl8
        have hlt := HH.out.lt
        have HS1 := Lib.hid (HH.out.setH hk y)
        have hon := OneAt.setCell (b := rb) w (k * 2) (.int .i64 y)
        have HON := Lib.hid hon
        have HV1 := Lib.hid (show Vw (w.setCell ⟨rb, k * 2, none⟩ (.int .i64 y)) (some ⟨b, 1, none⟩) (iV t) from .inr ⟨b, 1, rfl, by rw [World.size_setCell]; exact hbl, fun j u hj => by
          have hl : j < t.length := by
            have := (List.getElem?_eq_some_iff.1 hj).1
            rwa [iV_len] at this
          rw [World.cell?_of_block (w := w) (a := ⟨b, 1 + j, none⟩) (hon.blk b hbl hbr), Nat.add_comm 1 j, hcl (j + 1) (by simp; omega), ← hj, iV_at t j hl]
          rfl⟩)
        have c1w : (w.setCell ⟨rb, k * 2, none⟩ (.int .i64 y)).cell? ⟨rb, k * 2 + 1, none⟩ = some (.slice (some ⟨b, 0, none⟩) (t.length + 1) cq) := by rw [cell_ne (by omega)]; exact c1'
        have hs1 : (w.setCell ⟨rb, k * 2, none⟩ (.int .i64 y)).heap.size = w.heap.size := World.size_setCell ..
        clear hcl hon hp HVt
        go_enter Try.func11, Try.ntmps11
        go_wp2_with fail
        refine HRC.out.mono ?_
        rintro e w' ⟨rfl, rfl⟩
        have gl : (((t.length + 1 : Nat) : Int) == 0) = false := beq_eq_false_iff_ne.2 (by omega)
        go_upto_region 7 with (fail)
        generalize w.setCell ⟨rb, k * 2, none⟩ (.int .i64 y) = w1 at *
        have HA := Lib.hid (alloc_below w1 (.cells #[] 3))
        have c1a := (HA.out.cell (p := ⟨rb, k * 2 + 1, none⟩) (show rb < w1.heap.size by omega)).trans c1w
        have HO := Lib.hid (World.ownsRow_lit (base := w1.heap.size) (e := 3) (size := 1) w1 #[] 0 (Nat.le_refl _) (Nat.zero_le _) rfl)
        have HVa := Lib.hid (HV1.out.low HA.out)
        have hsa := HA.out.size
        clear c0' cy
        have HREST : ∀ (v2 : Value) (w2 : World), w2.ownsRow w1.heap.size 3 1 v2 t.length (iV t) → Below w1.heap.size (w1.alloc (.cells #[] 3)) w2 → ∃ p3 cap3, v2 = .slice p3 t.length cap3 ∧ w2.cell? ⟨rb, k * 2 + 1, none⟩ = some (.slice (some ⟨b, 0, none⟩) (t.length + 1) cq) ∧ w2.frozen? ⟨rb, k * 2 + 1, none⟩ = false ∧
            RlAt (ZN Z w (w2.setCell ⟨rb, k * 2 + 1, none⟩ (.slice p3 t.length cap3))) (w2.setCell ⟨rb, k * 2 + 1, none⟩ (.slice p3 t.length cap3)) rb n (Lk.upd R (k : Int) (y :: t)) ∧ OneAt rb w (w2.setCell ⟨rb, k * 2 + 1, none⟩ (.slice p3 t.length cap3)) := by
          intro v2 w2 hown2 hb2
          obtain ⟨p3, cap3, rfl, hv3, hp3, hc3⟩ := own_form3 hown2
          have hb3 := HA.out.trans hb2
          have hr3 := HS1.out.keep (Y := ZN Z w w2) hb3.size (fun k _ hk => hb3.block k hk) (fun k hk => .inl hk)
          refine ⟨p3, cap3, rfl, (hb3.cell (p := ⟨rb, k * 2 + 1, none⟩) (show rb < w1.heap.size by omega)).trans c1w, (World.frozen?_of_block (a := ⟨rb, k * 2 + 1, none⟩) (hb3.block rb (by omega))).trans (HS1.out.froz _), ?_, (HON.out.trans (OneAt.of_below hb3)).trans (OneAt.setCell _ _ _)⟩
          have hz : ZN Z w (w2.setCell ⟨rb, k * 2 + 1, none⟩ (.slice p3 t.length cap3)) = ZN Z w w2 := by unfold ZN; rw [World.size_setCell]
          rw [hz]
          refine (hr3.setQ hk (xs := t) hv3 (hp3.imp id fun ⟨b, e, e1, e2⟩ => ⟨b, e, by omega, e2, .inr ⟨by omega, e2⟩⟩) hc3).congr (fun i hi => ?_) (fun i hi => ?_)
          · by_cases e : i = k
            · subst e; rw [Lk.updN_same]; simp only [Lk.upd_same]; rfl
            · rw [Lk.updN_other _ _ e]; simp only [Lk.upd_other R _ (show (i : Int) ≠ (k : Int) by omega)]
          · by_cases e : i = k
            · subst e; rw [Lk.updN_same]; simp only [Lk.upd_same]; rfl
            · rw [Lk.updN_other _ _ e]; simp only [Lk.upd_other R _ (show (i : Int) ≠ (k : Int) by omega)]
        have HRE := Lib.hid HREST
        clear HREST hr hs1
        by_cases hc1 : cq = 1
        · subst hc1
          have ht0 : t = [] := List.length_eq_zero_iff.1 (by omega)
          rw [show t.length + 1 = 1 by omega] at c1a
          go_wp2_with (at_builtin; refine wpList_cat rfl _ _ 36 rfl w1.heap.size 3 _ 1 8 Try.underlying36 info_intL rfl (by omega) (by omega) _ 0 [] rfl HO.out _ 0 0 [] rfl (.inl rfl) (by simp) (fun u hu => by simp at hu) (by omega) hsa ?_)
          intro v2 w2 hown2 hb2
          obtain ⟨p3, cap3, rfl, c3, f3, hR, hO⟩ := HRE.out v2 w2 (by rw [ht0]; simpa using hown2) hb2
          have HRO := Lib.hid (And.intro hR hO)
          clear hR hO hown2 hb2 c1a c1w c1' ht0
          go_wp2_with fail
          go_ret
          rw [HT.out, HN.out]
          exact ⟨rfl, HRO.out.1, HRO.out.2⟩
        · have hc2 : 1 < cq := by omega
          go_wp2_with (at_builtin; refine wpList_cat rfl _ _ 36 rfl w1.heap.size 3 _ 1 8 Try.underlying36 info_intL rfl (by omega) (by omega) _ 0 [] rfl HO.out _ t.length (cq - 1) (iV t) rfl HVa.out (by simp) (fun u hu => by obtain ⟨x, -, rfl⟩ := List.mem_map.1 hu; rfl) (by omega) hsa ?_)
          intro v2 w2 hown2 hb2
          obtain ⟨p3, cap3, rfl, c3, f3, hR, hO⟩ := HRE.out v2 w2 hown2 hb2
          have HRO := Lib.hid (And.intro hR hO)
          clear hR hO hown2 hb2 c1a c1w c1'
          go_wp2_with fail
          go_ret
          rw [HT.out, HN.out]
          exact ⟨rfl, HRO.out.1, HRO.out.2⟩
  · have HT := Lib.hid (show Lk.dropT R who (k : Int) = false by
      unfold Lk.dropT
      cases hr : R (k : Int) with
      | nil => rfl
      | cons x t => rw [hr] at he; simpa [Lk.hd] using he)
    have HN := Lib.hid (show Lk.drop R who (k : Int) = R by unfold Lk.drop; rw [HT.out]; simp)
    have ge : (Lk.hd (R (k : Int)) == who) = false := beq_eq_false_iff_ne.2 he
    generalize Lk.hd (R (k : Int)) = x at *
    clear hp hc c1
    go_enter Try.func11, Try.ntmps11
    go_wp2_with fail
    refine HRC.out.mono ?_
    rintro e w' ⟨rfl, rfl⟩
    go_wp2_with fail
    go_ret
    rw [HT.out, HN.out]
    exact ⟨rfl, HH.out.weak fun k hk => .inl hk, OneAt.refl _⟩
end Go.Proofs.Ytgegahnjhaldeaa
