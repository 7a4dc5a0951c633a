/-
  The statement KindAll (P4.1, P4.3): for every number of how many are wanted, roebucklaw04.KindAll returns true and its argument reads afterwards as before. No condition.
-/
import Derived.Test.YtmaooljlkpfkoaaAllLaw
namespace Go.Proofs.Ytmaooljlkpfkoaa
open Go.ChangeShapes Go.WideShapes Go.ChangeAt Go.RowKit Wd Go.Lib

theorem all_c (w : World) : Calls Try.prog 18 #[] w fun e w' => e = .returned (.func (.func 22) #[] #[]) ∧ w = w' :=
  (callsIn_wide (n := 3)).1 (all_in Fence.wide 3 trivial rfl w)
theorem walks_of_below {W W' : World} (h : Below W.heap.size W W') : KeepsWalks W W' :=
  ⟨h.size, fun k o hk _ => by
    have hlt : k < W.heap.size := (Array.getElem?_eq_some_iff.1 hk).1
    rw [h.block k hlt]; exact hk⟩
theorem all1_c (most : Int) (pn pf pl pm g : Nat) (w0 W : World) (n1 : pn ≠ pf) (n2 : pn ≠ pl) (n3 : pn ≠ pm) (n4 : pn ≠ g) (n5 : pf ≠ pl) (n6 : pf ≠ pm) (n7 : pf ≠ g) (b1 : w0.heap.size ≤ pn) (b2 : w0.heap.size ≤ pf)
    (h0 : KAt W most pn pf pl pm g 0) (hB : Below w0.heap.size w0 W) :
    Calls Try.prog 22 #[.func (.func 19) #[] #[.pointer (some ⟨pn, 0, none⟩), .pointer (some ⟨pf, 0, none⟩), .pointer (some ⟨pl, 0, none⟩), .pointer (some ⟨pm, 0, none⟩)]] W
      fun e W' => e = .returned (.tuple #[]) ∧ KAt W' most pn pf pl pm g (wantN most) ∧ Below w0.heap.size w0 W' := by
  refine (callsIn_wide (n := 3)).1 (all1_kall Fence.wide 3 trivial trivial rfl (by decide) most pn pf pl pm g w0 W ?_ h0 hB)
  intro m W1 hm hK
  refine (callsIn_wide (n := 2)).2 ((kall1_c m hm most pn pf pl pm g W1 hK.n hK.nf hK.f hK.ff hK.l hK.mo (hK.c (m + 1) (by omega)) n1 n2 n3 n4 n5 n6 n7).mono ?_)
  rintro e W' ⟨rfl, W2, hb, rfl⟩
  have hz : (kallWorld W1 pn pf m).heap.size = W1.heap.size := by simp [World.setCell]
  have hsz : w0.heap.size ≤ W1.heap.size := Nat.le_trans b1 (Nat.le_of_lt (cell_lt hK.n))
  refine ⟨rfl, hK.step n1 n2 n3 n4 n5 n6 n7 hb, ?_, ?_⟩
  · exact (((KeepsWalks.setCell W1 _ _).trans (KeepsWalks.setCell _ _ _)).trans (walks_of_below (by rw [hz]; exact hb))).trans (KeepsWalks.setCell _ _ _)
  · exact ((((Below.refl _ W1).setCell (p := ⟨pn, 0, none⟩) b1 _).setCell (p := ⟨pf, 0, none⟩) b2 _).trans (hb.mono hsz)).setCell (p := ⟨pf, 0, none⟩) b2 _
set_option maxHeartbeats 2000000 in
theorem all_walk (most : Int) (_h0 : -9223372036854775808 ≤ most ∧ most ≤ 9223372036854775807) (w : World) :
    Calls Try.prog 5 #[.int .i64 most] w fun e w' => e = .returned (.bool true) ∧ Below w.heap.size w w' := by
  clear _h0
  have hnil : ∀ W : World, (binOp .eql 35 (.func (.func 22) #[] #[]) .nilFunc).run Try.prog W = .ok (.bool false) W := fun W => by kernel_rfl
  go_enter Try.func5, Try.ntmps5
  go_wp2_with fail
  refine (all_c _).mono ?_
  rintro e w1 ⟨rfl, rfl⟩
  go_wp2_with fail
  refine (refNames4_c _).mono ?_
  rintro e w1 ⟨rfl, rfl⟩
  have c0 := box_on (.cells (Tab.names4.map strV).toArray 9) (box_new w (.int .i64 most) 3)
  have HC := Lib.hid (fun (k : Nat) (hk : k < 99) => (show ((w.alloc (.cells #[.int .i64 most] 3)).alloc (.cells (Tab.names4.map strV).toArray 9)).cell? ⟨w.heap.size + 1, k, none⟩ = some (strV (Tab.nmL k)) from by
    have := names4_cell (w.alloc (.cells #[.int .i64 most] 3)) k hk
    rw [World.size_alloc] at this; exact this))
  have HB := Lib.hid (show Below w.heap.size w ((w.alloc (.cells #[.int .i64 most] 3)).alloc (.cells (Tab.names4.map strV).toArray 9)) from ((Below.refl _ _).alloc (Nat.le_refl _) _).alloc (by simp) _)
  have HZ := Lib.hid (show ((w.alloc (.cells #[.int .i64 most] 3)).alloc (.cells (Tab.names4.map strV).toArray 9)).heap.size = w.heap.size + 2 from by simp)
  have C0 := Lib.hid c0
  clear c0
  simp only [World.size_alloc]
  generalize ((w.alloc (.cells #[.int .i64 most] 3)).alloc (.cells (Tab.names4.map strV).toArray 9)) = W1 at *
  go_wp2_with fail
  have s0 := box_new W1 (.slice (some ⟨w.heap.size + 1, 0, none⟩) 99 99) 23
  have s1 := box_new (W1.alloc (.cells #[.slice (some ⟨w.heap.size + 1, 0, none⟩) 99 99] 23)) (.int .i64 0) 3
  have s2 := box_new ((W1.alloc (.cells #[.slice (some ⟨w.heap.size + 1, 0, none⟩) 99 99] 23)).alloc (.cells #[.int .i64 0] 3)) (.bool true) 4
  simp only [World.size_alloc] at s1 s2
  have hz := HZ.out
  refine (all1_c most (W1.heap.size + 1) (W1.heap.size + 1 + 1) W1.heap.size w.heap.size (w.heap.size + 1) w _ (by omega) (by omega) (by omega) (by omega) (by omega) (by omega) (by omega) (by omega) (by omega)
    ⟨(box_on _ s1).1, (box_on _ s1).2, s2.1, s2.2, (box_on _ (box_on _ s0)).1, (box_on _ (box_on _ (box_on _ C0.out))).1, fun k hk => ?_⟩ ?_).mono ?_
  · exact cell_kept (cell_kept (cell_kept (HC.out k hk) (World.grownBy_alloc _ _ none) (fun r e => by cases e)) (World.grownBy_alloc _ _ none) (fun r e => by cases e)) (World.grownBy_alloc _ _ none) (fun r e => by cases e)
  · exact ((HB.out.alloc HB.out.size _).alloc (by simp; omega) _).alloc (by simp; omega) _
  rintro e W2 ⟨rfl, hK, hb⟩
  have KA := Lib.hid hK
  have HB2 := Lib.hid hb
  clear hK hb s0 s1 s2 hz HC HB HZ C0
  generalize W1.heap.size = b1 at *
  by_cases h1 : 0 < most
  · have d1 : decide (0 < most) = true := by simpa using h1
    by_cases h2 : most < 98
    · have d2 : decide (most < 98) = true := by simpa using h2
      have HW := Lib.hid (show ((wantN most : Nat) : Int) = most by unfold wantN; rw [if_pos (by omega)]; omega)
      have q1 : (most == most) = true := by simp
      have cn := KA.out.n
      have cf := KA.out.f
      have cm := KA.out.mo
      rw [HW.out] at cn
      go_wp2_with fail
      refine (live4_c _).mono ?_
      rintro e w3 ⟨rfl, hb⟩
      have HB3 := Lib.hid (HB2.out.trans (hb.mono HB2.out.size))
      clear hb
      go_wp2_with fail
      go_ret
      exact ⟨rfl, HB3.out⟩
    · have d2 : decide (most < 98) = false := by simpa using h2
      have HW := Lib.hid (show ((wantN most : Nat) : Int) = 98 by unfold wantN; rw [if_neg (by omega)]; rfl)
      have cn := KA.out.n
      have cf := KA.out.f
      have cm := KA.out.mo
      rw [HW.out] at cn
      go_wp2_with fail
      refine (live4_c _).mono ?_
      rintro e w3 ⟨rfl, hb⟩
      have HB3 := Lib.hid (HB2.out.trans (hb.mono HB2.out.size))
      clear hb
      go_wp2_with fail
      go_ret
      exact ⟨rfl, HB3.out⟩
  · have d1 : decide (0 < most) = false := by simpa using h1
    have HW := Lib.hid (show ((wantN most : Nat) : Int) = 98 by unfold wantN; rw [if_neg (by omega)]; rfl)
    have cn := KA.out.n
    have cf := KA.out.f
    have cm := KA.out.mo
    rw [HW.out] at cn
    go_wp2_with fail
    refine (live4_c _).mono ?_
    rintro e w3 ⟨rfl, hb⟩
    have HB3 := Lib.hid (HB2.out.trans (hb.mono HB2.out.size))
    clear hb
    go_wp2_with fail
    go_ret
    exact ⟨rfl, HB3.out⟩

set_option maxRecDepth 100000 in
theorem all_lifted (os : Os) (started : os.Started) (H : Type) (enc : TypeId × Value → H) :
    ReturnsInHanded {} Try.checked os 5 .any (Rows.kindAllSpec.pre6 enc Try.prog Try.f5 Rows.kindAllRow.domain false) (Rows.kindAllSpec.post enc Try.prog Try.f5 false true false false) := by
  refine returnsInHanded_of_change (C := Try.checked) own started (by kernel_rfl) Try.func5
    (ChangeSpec.witness6 (enc := enc) (C := Try.checked) false ⟨#[], #[.int .i64 0], []⟩ 8 (by kernel_rfl) (by kernel_rfl) (by kernel_rfl) (by kernel_rfl)) ?_
  intro W base args ds gs before hval0 hW hcnd _
  have hval : ∀ (j : Nat) t v, Try.f5.params[j]? = some t → args[j]? = some v → Value.okWide Try.prog W .any base t v := hval0
  have hW' := hW
  obtain ⟨p, q, hA0, hV, rfl, hfz, hnd⟩ := hW
  have hA : DataW.TrodAll enc Try.prog W 0 (fun _ => true) true Try.f5.params.toList args.toList ds p := hA0
  rw [Try.params5] at hA hval
  obtain ⟨v0, vs0, d0, ds0, p0, q0, hargs, rfl, rfl, h0, r0⟩ := trodAll_cons hA
  obtain ⟨rfl, rfl, rfl⟩ := trodAll_nil r0
  obtain rfl : args = #[v0] := by cases args; simp_all
  obtain ⟨rfl, rfl⟩ := trodVars_none hV
  obtain ⟨a0, rfl, rfl, rfl, w0⟩ := open_int Try.underlying3 (hval 0 3 v0 rfl rfl) h0
  clear hA0 hval0
  refine (all_walk a0 (bounds_i64 w0) W).mono fun e W' ⟨he, bel⟩ => ?_
  subst he
  exact ⟨_, rfl, _, _, _, [], _, [], hW', trodAll_mk1 (shut_bool Try.underlying4 _), (trodAll_cons_mk (shut_int Try.underlying3 w0) trodAll_mk0), rfl, bel.frame _, fun h => by cases h⟩

theorem all_over : Rows.kindAllRow.holds Try.pinned (OpenSpec.ofChange Rows.kindAllSpec) :=
  OpenClaim.holds_of_wide 5 Try.f5 rfl rfl rfl rfl rfl rfl rfl ⟨rfl, rfl, rfl, rfl, rfl⟩ rfl rfl rfl rfl rfl (by kernel_rfl) Try.func5 (by kernel_rfl)
    (of_decide_eq_true (by kernel_rfl)) (by unfold Func.isWrapper; first | (rw [if_pos (by decide +kernel)]; kernel_rfl) | (rw [if_neg (by decide +kernel)]; exact ⟨rfl, rfl⟩))
    (fun os started H enc _ => all_lifted os started H enc)

theorem all_said : Rows.KindAllSaid := all_over
end Go.Proofs.Ytmaooljlkpfkoaa
