/-
  The statement AluLaws (P7.3): for every number op and all words a, b, roebucklaw07.AluLaws returns true and its arguments read afterwards as before. No condition.
-/
import Derived.Test.YtahamhpibjlgnaaAluE
namespace Go.Proofs.Ytahamhpibjlgnaa
open Go.ChangeShapes Go.WideShapes Go.ChangeAt Go.RowKit Wd

theorem bi_one (b : Bool) : (bi b == 1) = b := by cases b <;> rfl
theorem bne_b (b : Bool) : (b != b) = false := by simp
theorem bne_i (b : Int) : (b != b) = false := by simp
theorem beq_i (b : Int) : (b == b) = true := by simp
theorem divu_back {a b : Int} (ha0 : 0 ≤ a) (ha : a < 18446744073709551616) : IntKind.u64.wrap (IntKind.u64.wrap (divP a b * b) + remP a b) = a := div_back ha0 ha
theorem divs_back {a b : Int} (ha0 : 0 ≤ a) (ha : a < 18446744073709551616) : IntKind.u64.wrap (IntKind.u64.wrap (divS a b * b) + remS a b) = a := div_back ha0 ha
def lastW (k : Nat) : Bool := ((Tab.names4.getD k []).getLast? == some 119)
theorem lastW_iff : ∀ k : Fin 99, classL.getD k.val 0 = 1 → lastW k.val = decide ((41 ≤ k.val ∧ k.val ≤ 49) ∨ (62 ≤ k.val ∧ k.val ≤ 66)) := by decide +kernel
theorem name_size : ∀ k : Fin 99, classL.getD k.val 0 = 1 → 0 < (bsOf (Tab.names4.getD k.val [])).size ∧ (bsOf (Tab.names4.getD k.val [])).size < 10 := by decide +kernel
theorem name_last : ∀ k : Fin 99, (h : classL.getD k.val 0 = 1) → (((((bsOf (Tab.names4.getD k.val [])).data.toList.getD ((bsOf (Tab.names4.getD k.val [])).size - 1) 0).toNat : Int)) == 119) = lastW k.val := by decide +kernel
theorem at_last {q : ByteArray} (h : q.size - 1 < q.size) : q[q.size - 1]'h = q.data.toList.getD (q.size - 1) 0 := by
  have h2 : q.size - 1 < q.data.toList.length := by rw [Array.length_toList]; exact h
  rw [List.getD, List.getElem?_eq_getElem h2]
  rfl
/-- What the first half of the law asks, as one contract each. -/
structure Facts (a b : Int) : Prop where
  add : DoIs 31 a b (IntKind.u64.wrap (a + b)) true
  addi : DoIs 22 a b (IntKind.u64.wrap (a + b)) true
  sub : DoIs 32 (IntKind.u64.wrap (a + b)) b a true
  xor1 : DoIs 36 a b (bits .xor .u64 a b) true
  xor2 : DoIs 36 (bits .xor .u64 a b) b a true
  or : DoIs 39 a b (bits .or .u64 a b) true
  and : DoIs 40 a b (bits .and .u64 a b) true
  slt : DoIs 34 a b (bi (lessS a b)) true
  sltu : DoIs 35 a b (bi (lessU a b)) true
  sltiu : DoIs 24 a b (bi (lessU a b)) true
  sra : DoIs 38 a b (sraS a b) true
  srai : DoIs 30 a b (sraS a b) true
  div : DoIs 58 a b (divS a b) true
  rem : DoIs 60 a b (remS a b) true
  divu : DoIs 59 a b (divP a b) true
  remu : DoIs 61 a b (remP a b) true
theorem facts {a b : Int} (ha : InW a) (hb : InW b) : Facts a b where
  add := fun w => do_31 a b w ha hb
  addi := fun w => do_22 a b w ha hb
  sub := fun w => by
    have d := do_32 (IntKind.u64.wrap (a + b)) b w (wrap_range _) hb
    simp only [sub_add ha.1 ha.2] at d
    exact d
  xor1 := fun w => do_36 a b w ha hb
  xor2 := fun w => by
    have d := do_36 (bits .xor .u64 a b) b w (xor_range ha.1 ha.2 hb.1 hb.2) hb
    rw [xor_back ha.1 ha.2 hb.1 hb.2] at d
    exact d
  or := fun w => do_39 a b w ha hb
  and := fun w => do_40 a b w ha hb
  slt := fun w => do_34 a b w ha hb
  sltu := fun w => do_35 a b w ha hb
  sltiu := fun w => do_24 a b w ha hb
  sra := fun w => do_38 a b w ha hb
  srai := fun w => do_30 a b w ha hb
  div := fun w => do_58 a b w ha hb
  rem := fun w => do_60 a b w ha hb
  divu := fun w => do_59 a b w ha hb
  remu := fun w => do_61 a b w ha hb

set_option maxHeartbeats 4000000 in
theorem laws7_walk (op a b : Int) (_h0 : -9223372036854775808 ≤ op ∧ op ≤ 9223372036854775807) (h1 : 0 ≤ a ∧ a ≤ 18446744073709551615) (h2 : 0 ≤ b ∧ b ≤ 18446744073709551615) (w : World) :
    Calls Try.prog 5 #[.int .i64 op, .int .u64 a, .int .u64 b] w fun e w' => e = .returned (.bool true) ∧ Below w.heap.size w w' := by
  have ha : InW a := ⟨h1.1, by omega⟩
  have hb : InW b := ⟨h2.1, by omega⟩
  clear h1 h2
  have HF := Lib.hid (facts ha hb)
  have HA := Lib.hid ha
  have HBB := Lib.hid hb
  have o1 : IntKind.u64.wrap (bits .or .u64 a b + bits .and .u64 a b) = IntKind.u64.wrap (a + b) := by rw [or_and ha.1 ha.2 hb.1 hb.2]
  have o2 := divu_back (b := b) ha.1 ha.2
  have o3 := divs_back (b := b) ha.1 ha.2
  have n1 := bne_i a
  have n2 := bne_i (IntKind.u64.wrap (a + b))
  have n3 := bi_one (lessS a b)
  have n4 := bi_one (lessU a b)
  have n5 := bne_b (lessS a b)
  have n6 := bne_b (lessU a b)
  have n7 := bne_i (bi (lessU a b))
  have n8 := bne_i (sraS a b)
  have HT7 := Lib.hid (fun w' => taken_7 a b w' ha.1 ha.2 hb.1 hb.2)
  have HT9 := Lib.hid (show ∀ w', Calls Try.prog 9 #[.int .i64 9, .int .u64 a, .int .u64 b] w' fun e w'' => e = .returned (.tuple #[.bool (lessU a b), .bool true]) ∧ w' = w'' from fun w' => taken_9 a b w' ha.1 ha.2 hb.1 hb.2)
  clear ha hb
  set_option maxRecDepth 4000 in
  go_enter Try.func5, Try.ntmps5
  go_wp2_with fail
  refine (ldo HF.out.add _).mono ?_
  rintro e w1 ⟨rfl, hb⟩
  have HB1 := Lib.hid hb
  clear hb
  go_wp2_with fail
  refine (ldo HF.out.sub _).mono ?_
  rintro e w2 ⟨rfl, hb⟩
  have HB2 := Lib.hid (HB1.out.trans (hb.mono HB1.out.size))
  clear hb HB1
  go_wp2_with fail
  refine (ldo HF.out.xor1 _).mono ?_
  rintro e w3 ⟨rfl, hb⟩
  have HB3 := Lib.hid (HB2.out.trans (hb.mono HB2.out.size))
  clear hb HB2
  go_wp2_with fail
  refine (ldo HF.out.xor2 _).mono ?_
  rintro e w4 ⟨rfl, hb⟩
  have HB4 := Lib.hid (HB3.out.trans (hb.mono HB3.out.size))
  clear hb HB3
  go_wp2_with fail
  refine (ldo HF.out.or _).mono ?_
  rintro e w5 ⟨rfl, hb⟩
  have HB5 := Lib.hid (HB4.out.trans (hb.mono HB4.out.size))
  clear hb HB4
  go_wp2_with fail
  refine (ldo HF.out.and _).mono ?_
  rintro e w6 ⟨rfl, hb⟩
  have HB6 := Lib.hid (HB5.out.trans (hb.mono HB5.out.size))
  clear hb HB5
  go_wp2_with fail
  refine (HT7.out _).mono ?_
  rintro e w' ⟨rfl, rfl⟩
  go_wp2_with fail
  refine (HT9.out _).mono ?_
  rintro e w' ⟨rfl, rfl⟩
  go_wp2_with fail
  refine (ldo HF.out.slt _).mono ?_
  rintro e w7 ⟨rfl, hb⟩
  have HB7 := Lib.hid (HB6.out.trans (hb.mono HB6.out.size))
  clear hb HB6
  go_wp2_with fail
  refine (ldo HF.out.sltu _).mono ?_
  rintro e w8 ⟨rfl, hb⟩
  have HB8 := Lib.hid (HB7.out.trans (hb.mono HB7.out.size))
  clear hb HB7
  go_wp2_with fail
  refine (ldo HF.out.addi _).mono ?_
  rintro e w9 ⟨rfl, hb⟩
  have HB9 := Lib.hid (HB8.out.trans (hb.mono HB8.out.size))
  clear hb HB8
  go_wp2_with fail
  refine (ldo HF.out.add _).mono ?_
  rintro e w10 ⟨rfl, hb⟩
  have HB10 := Lib.hid (HB9.out.trans (hb.mono HB9.out.size))
  clear hb HB9
  go_wp2_with fail
  refine (ldo HF.out.sltiu _).mono ?_
  rintro e w11 ⟨rfl, hb⟩
  have HB11 := Lib.hid (HB10.out.trans (hb.mono HB10.out.size))
  clear hb HB10
  go_wp2_with fail
  refine (ldo HF.out.sltu _).mono ?_
  rintro e w12 ⟨rfl, hb⟩
  have HB12 := Lib.hid (HB11.out.trans (hb.mono HB11.out.size))
  clear hb HB11
  go_wp2_with fail
  refine (ldo HF.out.srai _).mono ?_
  rintro e w13 ⟨rfl, hb⟩
  have HB13 := Lib.hid (HB12.out.trans (hb.mono HB12.out.size))
  clear hb HB12
  go_wp2_with fail
  refine (ldo HF.out.sra _).mono ?_
  rintro e w14 ⟨rfl, hb⟩
  have HB14 := Lib.hid (HB13.out.trans (hb.mono HB13.out.size))
  clear hb HB13
  go_wp2_with fail
  refine (ldo HF.out.div _).mono ?_
  rintro e w15 ⟨rfl, hb⟩
  have HB15 := Lib.hid (HB14.out.trans (hb.mono HB14.out.size))
  clear hb HB14
  go_wp2_with fail
  refine (ldo HF.out.rem _).mono ?_
  rintro e w16 ⟨rfl, hb⟩
  have HB16 := Lib.hid (HB15.out.trans (hb.mono HB15.out.size))
  clear hb HB15
  go_wp2_with fail
  refine (ldo HF.out.divu _).mono ?_
  rintro e w17 ⟨rfl, hb⟩
  have HB17 := Lib.hid (HB16.out.trans (hb.mono HB16.out.size))
  clear hb HB16
  go_wp2_with fail
  refine (ldo HF.out.remu _).mono ?_
  rintro e w18 ⟨rfl, hb⟩
  have HB18 := Lib.hid (HB17.out.trans (hb.mono HB17.out.size))
  clear hb HB17
  clear o1 o3 n2 n3 n4 n5 n6 n7 n8 HT7 HT9 HF
  by_cases c0 : 1 ≤ op
  case neg =>
    have d0 : decide (1 ≤ op) = false := decide_eq_false c0
    clear c0
    go_wp2_with fail
    refine (live7_c _).mono ?_
    rintro e wl ⟨rfl, hb⟩
    have HBl := Lib.hid (HB18.out.trans (hb.mono HB18.out.size))
    clear hb
    go_wp2_with fail
    go_ret
    exact ⟨rfl, HBl.out⟩
  have d0 : decide (1 ≤ op) = true := decide_eq_true c0
  by_cases c1 : op ≤ 98
  case neg =>
    have d1 : decide (op ≤ 98) = false := decide_eq_false c1
    clear c0 c1
    go_wp2_with fail
    refine (live7_c _).mono ?_
    rintro e wl ⟨rfl, hb⟩
    have HBl := Lib.hid (HB18.out.trans (hb.mono HB18.out.size))
    clear hb
    go_wp2_with fail
    go_ret
    exact ⟨rfl, HBl.out⟩
  have d1 : decide (op ≤ 98) = true := decide_eq_true c1
  go_wp2_with fail
  refine (refClass_c _ _).mono ?_
  rintro e wc ⟨rfl, hb⟩
  have HBc := Lib.hid (HB18.out.trans (hb.mono HB18.out.size))
  clear hb HB18
  by_cases c2 : classS op = 1
  case neg =>
    have d2 : (classS op == 1) = false := by simpa using c2
    clear c0 c1 c2
    go_wp2_with fail
    refine (live7_c _).mono ?_
    rintro e wl ⟨rfl, hb⟩
    have HBl := Lib.hid (HBc.out.trans (hb.mono HBc.out.size))
    clear hb
    go_wp2_with fail
    go_ret
    exact ⟨rfl, HBl.out⟩
  have d2 : (classS op == 1) = true := by simpa using c2
  obtain ⟨k, rfl⟩ : ∃ k : Nat, op = (k : Int) := ⟨op.toNat, by omega⟩
  have hk : k < 99 := by omega
  have c2' : classL.getD k 0 = 1 := by
    unfold classS at c2
    rw [if_pos (by omega)] at c2
    have e : ((k : Int).toNat) = k := by omega
    rw [e] at c2
    omega
  have hlw := lastW_iff ⟨k, hk⟩ c2'
  obtain ⟨hs0, hs1⟩ := name_size ⟨k, hk⟩ c2'
  have hla := name_last ⟨k, hk⟩ c2'
  simp only at hlw hs0 hs1 hla
  clear c2 c2'
  go_wp2_with fail
  refine (refNames4_c _).mono ?_
  rintro e wn ⟨rfl, rfl⟩
  have hc : (wc.alloc (.cells (Tab.names4.map strV).toArray 9)).cell? ⟨wc.heap.size, k, none⟩ = some (.string (bsOf (Tab.names4.getD k []))) := names4_cell wc k hk
  have HBn := Lib.hid (HBc.out.alloc HBc.out.size (.cells (Tab.names4.map strV).toArray 9))
  clear HBc
  generalize (wc.alloc (.cells (Tab.names4.map strV).toArray 9)) = W at *
  generalize bsOf (Tab.names4.getD k []) = q at *
  have hk2 : (k : Int) < 99 := by omega
  clear d0 d1 d2 c0 c1
  have hla2 : ((((q[q.size - 1]'(by omega)).toNat : Int)) == 119) = lastW k := by rw [at_last]; exact hla
  clear hla
  have e1 : wrap64 ((q.size : Int) - 1) = ((q.size - 1 : Nat) : Int) := by unfold wrap64; omega
  generalize hlwB : lastW k = lw at *
  have HLW := Lib.hid hlw
  clear hlw hlwB
  cases lw
  · go_wp2_with fail
    refine (live7_c _).mono ?_
    rintro e wl ⟨rfl, hb⟩
    have HBl := Lib.hid (HBn.out.trans (hb.mono HBn.out.size))
    clear hb
    go_wp2_with fail
    go_ret
    exact ⟨rfl, HBl.out⟩
  · obtain ⟨v, hv, hsg, dv, du⟩ := do_w k a b (by have := of_decide_eq_true HLW.out.symm; omega) HA.out HBB.out
    have hE := beq_i v
    have HV := Lib.hid hv
    have HU := Lib.hid (And.intro dv du)
    have HSG := Lib.hid hsg
    clear hv dv du hsg
    go_wp2_with fail
    refine (ldo HU.out.1 _).mono ?_
    rintro e w31 ⟨rfl, hb⟩
    have HB31 := Lib.hid (HBn.out.trans (hb.mono HBn.out.size))
    clear hb
    go_wp2_with fail
    refine (word_c _ _ HV.out.1 HV.out.2).mono ?_
    rintro e w' ⟨rfl, rfl⟩
    rw [HSG.out]
    go_wp2_with fail
    refine (low_c _ _ _ HA.out.1 HA.out.2).mono ?_
    rintro e w' ⟨rfl, rfl⟩
    go_wp2_with fail
    refine (word_c _ _ HBB.out.1 HBB.out.2).mono ?_
    rintro e w' ⟨rfl, rfl⟩
    go_wp2_with fail
    refine (ldo HU.out.2 _).mono ?_
    rintro e w32 ⟨rfl, hb⟩
    have HB32 := Lib.hid (HB31.out.trans (hb.mono HB31.out.size))
    clear hb
    go_wp2_with fail
    refine (live7_c _).mono ?_
    rintro e wl ⟨rfl, hb⟩
    have HBl := Lib.hid (HB32.out.trans (hb.mono HB32.out.size))
    clear hb
    go_wp2_with fail
    go_ret
    exact ⟨rfl, HBl.out⟩

set_option maxRecDepth 100000 in
theorem laws7_lifted (os : Os) (started : os.Started) (H : Type) (enc : TypeId × Value → H) :
    ReturnsInHanded {} Try.checked os 5 .any (Rows.aluLawsSpec.pre6 enc Try.prog Try.f5 Rows.aluLawsRow.domain false) (Rows.aluLawsSpec.post enc Try.prog Try.f5 false true false false) := by
  refine returnsInHanded_of_change (C := Try.checked) own started (by kernel_rfl) Try.func5
    (ChangeSpec.witness6 (enc := enc) (C := Try.checked) false ⟨#[], #[.int .i64 0, .int .u64 0, .int .u64 0], []⟩ 8 (by kernel_rfl) (by kernel_rfl) (by kernel_rfl) (by kernel_rfl)) ?_
  intro W base args ds gs before hval0 hW hcnd _
  have hval : ∀ (j : Nat) t v, Try.f5.params[j]? = some t → args[j]? = some v → Value.okWide Try.prog W .any base t v := hval0
  have hW' := hW
  obtain ⟨p, q, hA0, hV, rfl, hfz, hnd⟩ := hW
  have hA : DataW.TrodAll enc Try.prog W 0 (fun _ => true) true Try.f5.params.toList args.toList ds p := hA0
  rw [Try.params5] at hA hval
  obtain ⟨v0, vs0, d0, ds0, p0, q0, hargs, rfl, rfl, h0, r0⟩ := trodAll_cons hA
  obtain ⟨v1, vs1, d1, ds1, p1, q1, rfl, rfl, rfl, h1, r1⟩ := trodAll_cons r0
  obtain ⟨v2, vs2, d2, ds2, p2, q2, rfl, rfl, rfl, h2, r2⟩ := trodAll_cons r1
  obtain ⟨rfl, rfl, rfl⟩ := trodAll_nil r2
  obtain rfl : args = #[v0, v1, v2] := by cases args; simp_all
  obtain ⟨rfl, rfl⟩ := trodVars_none hV
  obtain ⟨a0, rfl, rfl, rfl, w0⟩ := open_int Try.underlying3 (hval 0 3 v0 rfl rfl) h0
  obtain ⟨a1, rfl, rfl, rfl, w1⟩ := open_int Try.underlying22 (hval 1 22 v1 rfl rfl) h1
  obtain ⟨a2, rfl, rfl, rfl, w2⟩ := open_int Try.underlying22 (hval 2 22 v2 rfl rfl) h2
  clear hA0 hval0
  refine (laws7_walk a0 a1 a2 (bounds_i64 w0) (bounds_u64 w1) (bounds_u64 w2) W).mono fun e W' ⟨he, bel⟩ => ?_
  subst he
  exact ⟨_, rfl, _, _, _, [], _, [], hW', trodAll_mk1 (shut_bool Try.underlying4 _), (trodAll_cons_mk (shut_int Try.underlying3 w0) (trodAll_cons_mk (shut_int Try.underlying22 w1) (trodAll_cons_mk (shut_int Try.underlying22 w2) trodAll_mk0))), rfl, bel.frame _, fun h => by cases h⟩

theorem laws7_over : Rows.aluLawsRow.holds Try.pinned (OpenSpec.ofChange Rows.aluLawsSpec) :=
  OpenClaim.holds_of_wide 5 Try.f5 rfl rfl rfl rfl rfl rfl rfl ⟨rfl, rfl, rfl, rfl, rfl⟩ rfl rfl rfl rfl rfl (by kernel_rfl) Try.func5 (by kernel_rfl)
    (of_decide_eq_true (by kernel_rfl)) (by unfold Func.isWrapper; first | (rw [if_pos (by decide +kernel)]; kernel_rfl) | (rw [if_neg (by decide +kernel)]; exact ⟨rfl, rfl⟩))
    (fun os started H enc _ => laws7_lifted os started H enc)

theorem laws7_said : Rows.AluLawsSaid := laws7_over
end Go.Proofs.Ytahamhpibjlgnaa
