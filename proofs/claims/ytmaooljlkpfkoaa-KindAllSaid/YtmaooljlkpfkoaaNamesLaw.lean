/-
  The statement KindNames (P4.1): for every number and text, roebucklaw04.KindNames returns true and its arguments read afterwards as before. No condition.
-/
import Derived.Test.YtmaooljlkpfkoaaLive4
import Derived.Test.YtmaooljlkpfkoaaFrame
import Derived.ChangeMaps5
namespace Go.Proofs.Ytmaooljlkpfkoaa
open Go.ChangeShapes Go.WideShapes Go.ChangeAt Go.RowKit Wd Go.ChangeMaps

/-- The last place, below k, whose name a text is; 0: none. -/
def lastN (s : ByteArray) : Nat → Nat
  | 0 => 0
  | k + 1 => if 1 ≤ k ∧ isNm s k = true then k else lastN s k
theorem nm_apart : ∀ i j : Fin 99, (bsOf (Tab.nmL i.val)).toList = (bsOf (Tab.nmL j.val)).toList → i = j := by decide +kernel
theorem isNm_one {s : ByteArray} {i j : Nat} (hi : i < 99) (hj : j < 99) (h : isNm s i = true) (h' : isNm s j = true) : i = j := by
  have e := eq_of_beq h
  have e' := eq_of_beq h'
  have := nm_apart ⟨i, hi⟩ ⟨j, hj⟩ (e.trans e'.symm)
  exact Fin.mk.inj this
theorem lastN_none {s : ByteArray} (k : Nat) (h : ∀ i, 1 ≤ i → i < k → isNm s i = false) : lastN s k = 0 := by
  induction k with
  | zero => rfl
  | succ k ih =>
    unfold lastN
    rw [if_neg, ih fun i h1 h2 => h i h1 (by omega)]
    rintro ⟨h1, h2⟩
    rw [h k h1 (by omega)] at h2; cases h2
theorem lastN_some {s : ByteArray} (k m : Nat) (hm : 1 ≤ m) (hmk : m < k) (hk : k ≤ 99) (h : isNm s m = true) : lastN s k = m := by
  induction k with
  | zero => omega
  | succ k ih =>
    unfold lastN
    by_cases e : k = m
    · subst e; rw [if_pos ⟨hm, h⟩]
    · rw [if_neg, ih (by omega) (by omega)]
      rintro ⟨_, h2⟩
      exact e (isNm_one (by omega) (by omega) h2 h)
theorem mem_told {k m : Nat} : k ∈ told m ↔ 1 ≤ k ∧ k ≤ m := by
  simp only [told, List.mem_map, List.mem_range]
  exact ⟨fun ⟨a, h, e⟩ => by omega, fun ⟨h1, h2⟩ => ⟨k - 1, by omega, by omega⟩⟩
theorem find_last (s : ByteArray) : findN s = lastN s 99 := by
  unfold findN
  cases hf : (told 98).find? (isNm s) with
  | none =>
    rw [lastN_none]
    · rfl
    · intro i h1 h2
      have := List.find?_eq_none.1 hf i (mem_told.2 ⟨h1, by omega⟩)
      simpa using this
  | some m =>
    have hm := mem_told.1 (List.mem_of_find?_eq_some hf)
    rw [lastN_some 99 m hm.1 (by omega) (by omega) (List.find?_some hf)]
    rfl
theorem lastN_le (s : ByteArray) (k : Nat) : lastN s k ≤ k := by
  induction k with
  | zero => exact Nat.le_refl _
  | succ k ih => unfold lastN; split <;> omega
theorem names_live (s : ByteArray) (op : Int) (w : World) (h : 100 < (s.size : Int)) :
    Calls Try.prog 3 #[.int .i64 op, .string s] w fun e w' => e = .returned (.bool true) ∧ Below w.heap.size w w' := by
  go_enter Try.func3, Try.ntmps3
  go_wp2_with fail
  refine (live4_c _).mono ?_
  rintro e w1 ⟨rfl, hb⟩
  have HB1 := Lib.hid hb
  clear hb
  go_wp2_with fail
  go_ret
  exact ⟨rfl, HB1.out⟩
theorem pick_int (n : Nat) : decide ((0 : Int) < (n : Nat)) = (n != 0) := by
  rw [Bool.eq_iff_iff]; simp; omega
theorem pick_nat (n : Nat) : decide (0 < n) = (n != 0) := by
  rw [Bool.eq_iff_iff]; simp; omega
set_option maxHeartbeats 4000000 in
theorem names_loop (s : ByteArray) (op : Int) (w : World) (h : (s.size : Int) ≤ 100) :
    Calls Try.prog 3 #[.int .i64 op, .string s] w fun e w' => e = .returned (.bool true) ∧ Below w.heap.size w w' := by
  have HF := Lib.hid (find_last s)
  have HL := Lib.hid (lastN_le s 99)
  have d0 : decide ((100 : Int) < s.size) = false := by simp; omega
  clear h
  by_cases h1 : 1 ≤ op
  · have d1 : decide ((1 : Int) ≤ op) = true := by simpa using h1
    by_cases h2 : op ≤ 98
    · obtain ⟨k0, rfl⟩ : ∃ k : Nat, op = (k : Int) := ⟨op.toNat, by omega⟩
      have d2 : decide ((k0 : Int) < 99) = true := by simp; omega
      have HN := Lib.hid (show nameB (k0 : Int) = bsOf (Tab.names4.getD k0 []) by unfold nameB; rw [if_pos (by omega)]; rfl)
      go_enter Try.func3, Try.ntmps3
      go_wp2_with fail
      refine (refNames4_c _).mono ?_
      rintro e w1 ⟨rfl, rfl⟩
      have HC := Lib.hid (fun (k : Nat) (hk : k < 99) => (show (w.alloc (.cells (Tab.names4.map strV).toArray 9)).cell? ⟨w.heap.size, k, none⟩ = some (.string (bsOf (Tab.names4.getD k []))) from names4_cell w k hk))
      have HB := Lib.hid (show Below w.heap.size w (w.alloc (.cells (Tab.names4.map strV).toArray 9)) from (Below.refl _ _).alloc (Nat.le_refl _) _)
      generalize (w.alloc (.cells (Tab.names4.map strV).toArray 9)) = W at *
      have c0 := HC.out k0 (by omega)
      generalize bsOf (Tab.names4.getD k0 []) = q0 at *
      go_wp2_with fail
      go_loop [7, 8] (fun a i => ∃ k : Nat, 1 ≤ k ∧ k ≤ 99 ∧ i = .int .i64 k ∧ a = .int .i64 (lastN s k : Nat)) (fun _ i => 99 - (intOf i).toNat)
      case atStart => exact ⟨1, by omega, by omega, rfl, by simp [lastN]⟩
      case round =>
        obtain ⟨k, hk1, hk, rfl, rfl⟩ := hrel
        by_cases hlt : k < 99
        · have c := HC.out k hlt
          have e : ((bsOf (Tab.names4.getD k [])).toList == s.toList) = isNm s k := rfl
          generalize bsOf (Tab.names4.getD k []) = q at *
          cases hi : isNm s k
          · rw [hi] at e
            have HK := Lib.hid (show lastN s (k + 1) = lastN s k by rw [lastN, if_neg (fun h => by rw [hi] at h; cases h.2)])
            clear hi
            generalize lastN s k = m at *
            go_wp2_with fail
            go_round
            case rel => exact ⟨k + 1, by omega, by omega, by go_num, by rw [HK.out]⟩
            case measure => simp [intOf]; omega
          · rw [hi] at e
            have HK := Lib.hid (show lastN s (k + 1) = k by rw [lastN, if_pos ⟨hk1, hi⟩])
            clear hi
            generalize lastN s k = m at *
            go_wp2_with fail
            go_round
            case rel => exact ⟨k + 1, by omega, by omega, by go_num, by rw [HK.out]⟩
            case measure => simp [intOf]; omega
        · obtain rfl : k = 99 := by omega
          clear hlt hk1 hk
          rw [← HF.out]
          go_wp2_with fail
          refine (find_c _ _).mono ?_
          rintro e w1 ⟨rfl, hb⟩
          have HB1 := Lib.hid (HB.out.trans (hb.mono HB.out.size))
          clear hb
          have p1 := pick_int (findN s)
          have p1' := pick_nat (findN s)
          have p2 : (((findN s : Nat) : Int) == ((findN s : Nat) : Int)) = true := by simp
          have hle : ((findN s : Nat) : Int) ≤ 99 := by have := HL.out; rw [← HF.out] at this; omega
          clear HL HF
          generalize findN s = m at *
          generalize (m != 0) = b at *
          have p3 : (b == b) = true := by simp
          go_wp2_with fail
          refine (name_c _ _).mono ?_
          rintro e w2 ⟨rfl, hb⟩
          have HB2 := Lib.hid (HB1.out.trans (hb.mono HB1.out.size))
          clear hb
          rw [HN.out]
          have pq : (q0.toList == q0.toList) = true := by simp
          go_wp2_with fail
          refine (live4_c _).mono ?_
          rintro e w3 ⟨rfl, hb⟩
          have HB3 := Lib.hid (HB2.out.trans (hb.mono HB2.out.size))
          clear hb
          go_wp2_with fail
          go_ret
          exact ⟨rfl, HB3.out⟩
    · have d2 : decide (op < 99) = false := by simp; omega
      have HN := Lib.hid (show nameB op = ⟨#[]⟩ by unfold nameB; rw [if_neg (by omega)]; rfl)
      go_enter Try.func3, Try.ntmps3
      go_wp2_with fail
      refine (refNames4_c _).mono ?_
      rintro e w1 ⟨rfl, rfl⟩
      have HC := Lib.hid (fun (k : Nat) (hk : k < 99) => (show (w.alloc (.cells (Tab.names4.map strV).toArray 9)).cell? ⟨w.heap.size, k, none⟩ = some (.string (bsOf (Tab.names4.getD k []))) from names4_cell w k hk))
      have HB := Lib.hid (show Below w.heap.size w (w.alloc (.cells (Tab.names4.map strV).toArray 9)) from (Below.refl _ _).alloc (Nat.le_refl _) _)
      generalize (w.alloc (.cells (Tab.names4.map strV).toArray 9)) = W at *
      go_wp2_with fail
      go_loop [7, 8] (fun a i => ∃ k : Nat, 1 ≤ k ∧ k ≤ 99 ∧ i = .int .i64 k ∧ a = .int .i64 (lastN s k : Nat)) (fun _ i => 99 - (intOf i).toNat)
      case atStart => exact ⟨1, by omega, by omega, rfl, by simp [lastN]⟩
      case round =>
        obtain ⟨k, hk1, hk, rfl, rfl⟩ := hrel
        by_cases hlt : k < 99
        · have c := HC.out k hlt
          have e : ((bsOf (Tab.names4.getD k [])).toList == s.toList) = isNm s k := rfl
          generalize bsOf (Tab.names4.getD k []) = q at *
          cases hi : isNm s k
          · rw [hi] at e
            have HK := Lib.hid (show lastN s (k + 1) = lastN s k by rw [lastN, if_neg (fun h => by rw [hi] at h; cases h.2)])
            clear hi
            generalize lastN s k = m at *
            go_wp2_with fail
            go_round
            case rel => exact ⟨k + 1, by omega, by omega, by go_num, by rw [HK.out]⟩
            case measure => simp [intOf]; omega
          · rw [hi] at e
            have HK := Lib.hid (show lastN s (k + 1) = k by rw [lastN, if_pos ⟨hk1, hi⟩])
            clear hi
            generalize lastN s k = m at *
            go_wp2_with fail
            go_round
            case rel => exact ⟨k + 1, by omega, by omega, by go_num, by rw [HK.out]⟩
            case measure => simp [intOf]; omega
        · obtain rfl : k = 99 := by omega
          clear hlt hk1 hk
          rw [← HF.out]
          go_wp2_with fail
          refine (find_c _ _).mono ?_
          rintro e w1 ⟨rfl, hb⟩
          have HB1 := Lib.hid (HB.out.trans (hb.mono HB.out.size))
          clear hb
          have p1 := pick_int (findN s)
          have p1' := pick_nat (findN s)
          have p2 : (((findN s : Nat) : Int) == ((findN s : Nat) : Int)) = true := by simp
          have hle : ((findN s : Nat) : Int) ≤ 99 := by have := HL.out; rw [← HF.out] at this; omega
          clear HL HF
          generalize findN s = m at *
          generalize (m != 0) = b at *
          have p3 : (b == b) = true := by simp
          go_wp2_with fail
          refine (name_c _ _).mono ?_
          rintro e w2 ⟨rfl, hb⟩
          have HB2 := Lib.hid (HB1.out.trans (hb.mono HB1.out.size))
          clear hb
          rw [HN.out]
          have pq : (([] : List UInt8) == []) = true := rfl
          go_wp2_with fail
          refine (live4_c _).mono ?_
          rintro e w3 ⟨rfl, hb⟩
          have HB3 := Lib.hid (HB2.out.trans (hb.mono HB2.out.size))
          clear hb
          go_wp2_with fail
          go_ret
          exact ⟨rfl, HB3.out⟩
  · have d1 : decide ((1 : Int) ≤ op) = false := by simpa using h1
    have HN := Lib.hid (show nameB op = ⟨#[]⟩ by unfold nameB; rw [if_neg (by omega)]; rfl)
    go_enter Try.func3, Try.ntmps3
    go_wp2_with fail
    refine (refNames4_c _).mono ?_
    rintro e w1 ⟨rfl, rfl⟩
    have HC := Lib.hid (fun (k : Nat) (hk : k < 99) => (show (w.alloc (.cells (Tab.names4.map strV).toArray 9)).cell? ⟨w.heap.size, k, none⟩ = some (.string (bsOf (Tab.names4.getD k []))) from names4_cell w k hk))
    have HB := Lib.hid (show Below w.heap.size w (w.alloc (.cells (Tab.names4.map strV).toArray 9)) from (Below.refl _ _).alloc (Nat.le_refl _) _)
    generalize (w.alloc (.cells (Tab.names4.map strV).toArray 9)) = W at *
    go_wp2_with fail
    go_loop [7, 8] (fun a i => ∃ k : Nat, 1 ≤ k ∧ k ≤ 99 ∧ i = .int .i64 k ∧ a = .int .i64 (lastN s k : Nat)) (fun _ i => 99 - (intOf i).toNat)
    case atStart => exact ⟨1, by omega, by omega, rfl, by simp [lastN]⟩
    case round =>
      obtain ⟨k, hk1, hk, rfl, rfl⟩ := hrel
      by_cases hlt : k < 99
      · have c := HC.out k hlt
        have e : ((bsOf (Tab.names4.getD k [])).toList == s.toList) = isNm s k := rfl
        generalize bsOf (Tab.names4.getD k []) = q at *
        cases hi : isNm s k
        · rw [hi] at e
          have HK := Lib.hid (show lastN s (k + 1) = lastN s k by rw [lastN, if_neg (fun h => by rw [hi] at h; cases h.2)])
          clear hi
          generalize lastN s k = m at *
          go_wp2_with fail
          go_round
          case rel => exact ⟨k + 1, by omega, by omega, by go_num, by rw [HK.out]⟩
          case measure => simp [intOf]; omega
        · rw [hi] at e
          have HK := Lib.hid (show lastN s (k + 1) = k by rw [lastN, if_pos ⟨hk1, hi⟩])
          clear hi
          generalize lastN s k = m at *
          go_wp2_with fail
          go_round
          case rel => exact ⟨k + 1, by omega, by omega, by go_num, by rw [HK.out]⟩
          case measure => simp [intOf]; omega
      · obtain rfl : k = 99 := by omega
        clear hlt hk1 hk
        rw [← HF.out]
        go_wp2_with fail
        refine (find_c _ _).mono ?_
        rintro e w1 ⟨rfl, hb⟩
        have HB1 := Lib.hid (HB.out.trans (hb.mono HB.out.size))
        clear hb
        have p1 := pick_int (findN s)
        have p1' := pick_nat (findN s)
        have p2 : (((findN s : Nat) : Int) == ((findN s : Nat) : Int)) = true := by simp
        have hle : ((findN s : Nat) : Int) ≤ 99 := by have := HL.out; rw [← HF.out] at this; omega
        clear HL HF
        generalize findN s = m at *
        generalize (m != 0) = b at *
        have p3 : (b == b) = true := by simp
        go_wp2_with fail
        refine (name_c _ _).mono ?_
        rintro e w2 ⟨rfl, hb⟩
        have HB2 := Lib.hid (HB1.out.trans (hb.mono HB1.out.size))
        clear hb
        rw [HN.out]
        have pq : (([] : List UInt8) == []) = true := rfl
        go_wp2_with fail
        refine (live4_c _).mono ?_
        rintro e w3 ⟨rfl, hb⟩
        have HB3 := Lib.hid (HB2.out.trans (hb.mono HB2.out.size))
        clear hb
        go_wp2_with fail
        go_ret
        exact ⟨rfl, HB3.out⟩
theorem names_walk (op : Int) (s : ByteArray) (_h0 : -9223372036854775808 ≤ op ∧ op ≤ 9223372036854775807) (_hs : s.size ≤ maxLen) (w : World) :
    Calls Try.prog 3 #[.int .i64 op, .string s] w fun e w' => e = .returned (.bool true) ∧ Below w.heap.size w w' := by
  by_cases h : 100 < (s.size : Int)
  · exact names_live s op w h
  · exact names_loop s op w (by omega)

set_option maxRecDepth 100000 in
theorem names_lifted (os : Os) (started : os.Started) (H : Type) (enc : TypeId × Value → H) :
    ReturnsInHanded {} Try.checked os 3 .any (Rows.kindNamesSpec.pre6 enc Try.prog Try.f3 Rows.kindNamesRow.domain false) (Rows.kindNamesSpec.post enc Try.prog Try.f3 false true false false) := by
  refine returnsInHanded_of_change (C := Try.checked) own started (by kernel_rfl) Try.func3
    (ChangeSpec.witness6 (enc := enc) (C := Try.checked) false ⟨#[], #[.int .i64 0, .string ⟨#[]⟩], []⟩ 8 (by kernel_rfl) (by kernel_rfl) (by kernel_rfl) (by kernel_rfl)) ?_
  intro W base args ds gs before hval0 hW hcnd _
  have hval : ∀ (j : Nat) t v, Try.f3.params[j]? = some t → args[j]? = some v → Value.okWide Try.prog W .any base t v := hval0
  have hW' := hW
  obtain ⟨p, q, hA0, hV, rfl, hfz, hnd⟩ := hW
  have hA : DataW.TrodAll enc Try.prog W 0 (fun _ => true) true Try.f3.params.toList args.toList ds p := hA0
  rw [Try.params3] at hA hval
  obtain ⟨v0, vs0, d0, ds0, p0, q0, hargs, rfl, rfl, h0, r0⟩ := trodAll_cons hA
  obtain ⟨v1, vs1, d1, ds1, p1, q1, rfl, rfl, rfl, h1, r1⟩ := trodAll_cons r0
  obtain ⟨rfl, rfl, rfl⟩ := trodAll_nil r1
  obtain rfl : args = #[v0, v1] := by cases args; simp_all
  obtain ⟨rfl, rfl⟩ := trodVars_none hV
  obtain ⟨a0, rfl, rfl, rfl, w0⟩ := open_int Try.underlying3 (hval 0 3 v0 rfl rfl) h0
  obtain ⟨a1, rfl, rfl, rfl, w1⟩ := open_string Try.underlying9 (hval 1 9 v1 rfl rfl) h1
  clear hA0 hval0
  refine (names_walk a0 a1 (bounds_i64 w0) w1 W).mono fun e W' ⟨he, bel⟩ => ?_
  subst he
  exact ⟨_, rfl, _, _, _, [], _, [], hW', trodAll_mk1 (shut_bool Try.underlying4 _), (trodAll_cons_mk (shut_int Try.underlying3 w0) (trodAll_cons_mk (shut_string Try.underlying9 w1) trodAll_mk0)), rfl, bel.frame _, fun h => by cases h⟩

theorem names_over : Rows.kindNamesRow.holds Try.pinned (OpenSpec.ofChange Rows.kindNamesSpec) :=
  OpenClaim.holds_of_wide 3 Try.f3 rfl rfl rfl rfl rfl rfl rfl ⟨rfl, rfl, rfl, rfl, rfl⟩ rfl rfl rfl rfl rfl (by kernel_rfl) Try.func3 (by kernel_rfl)
    (of_decide_eq_true (by kernel_rfl)) (by unfold Func.isWrapper; first | (rw [if_pos (by decide +kernel)]; kernel_rfl) | (rw [if_neg (by decide +kernel)]; exact ⟨rfl, rfl⟩))
    (fun os started H enc _ => names_lifted os started H enc)

theorem names_said : Rows.KindNamesSaid := names_over
end Go.Proofs.Ytmaooljlkpfkoaa
