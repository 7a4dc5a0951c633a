/-
  Contracts of csrfile.File.Get, Turn, Do, and of New, Writes, written.
-/
import Derived.Test.YtfjdalepaacmgaaDoorCfC
import Derived.Test.YtfjdalepaacmgaaDoorKind
set_option maxRecDepth 20000
namespace Go.Proofs.YtfjdalepaacmgaaDoor
open Go.ChangeShapes Go.WideShapes Go.ChangeAt Go.RowKit Wd Csr Sta Cf

set_option maxHeartbeats 4000000 in
theorem fcget_c (g : Nat) (n l : Int) (s : S) (w : World) (hK : KeptIn w) (h : FlAt w g s) :
    Calls Tryd.prog 39 #[.pointer (some ⟨g, 0, none⟩), .int .i64 n, .int .u64 l] w fun e w' => e = .returned (.int .u64 (getS s n l)) ∧ Below w.heap.size w w' := by
  have HW := Lib.hid (fun m W (hb : Below w.heap.size w W) => fword_c g m s W (hK.low hb) (h.low hb))
  have HP := Lib.hid (fun W (hb : Below w.heap.size w W) => fpend_c g l s W (hK.low hb) (h.low hb))
  have HH := Lib.hid h.r.lt
  have h0 : w.cell? ⟨g, 0, none⟩ = some (.int .i64 s.h) := by rw [h.r.cell, fileV_0]
  have HM := Lib.hid h.ok
  clear hK h
  by_cases h256 : n = 256
  · subst h256
    have HV := Lib.hid (show getS s 256 l = viewS (s.f 768) from rfl)
    go_enter Tryd.func39, Tryd.ntmps39
    go_wp2_with fail
    refine (HW.out _ _ (Below.refl _ _)).mono ?_
    rintro e w1 ⟨rfl, hb⟩
    have HB := Lib.hid hb
    clear hb
    go_wp2_with fail
    refine (view_c _ _).mono ?_
    rintro e w2 ⟨rfl, rfl⟩
    go_wp2_with fail
    go_ret
    exact ⟨by rw [HV.out]; rfl, HB.out⟩
  · have e256 : (n == 256) = false := by simpa using h256
    by_cases h260 : n = 260
    · subst h260
      have HV := Lib.hid (show getS s 260 l = bits .and .u64 (s.f 772) (s.f 771) from rfl)
      go_enter Tryd.func39, Tryd.ntmps39
      go_wp2_with fail
      refine (HW.out _ _ (Below.refl _ _)).mono ?_
      rintro e w1 ⟨rfl, hb⟩
      have HB := Lib.hid hb
      clear hb
      go_wp2_with fail
      refine (HW.out _ _ HB.out).mono ?_
      rintro e w2 ⟨rfl, hb⟩
      have HB2 := Lib.hid (HB.out.trans (hb.mono HB.out.size))
      clear hb
      go_wp2_with fail
      go_ret
      exact ⟨by rw [HV.out]; rfl, HB2.out⟩
    · have e260 : (n == 260) = false := by simpa using h260
      by_cases h324 : n = 324
      · subst h324
        have HV := Lib.hid (show getS s 324 l = bits .and .u64 (pendS s l) (s.f 771) from rfl)
        go_enter Tryd.func39, Tryd.ntmps39
        go_wp2_with fail
        refine (HP.out _ (Below.refl _ _)).mono ?_
        rintro e w1 ⟨rfl, hb⟩
        have HB := Lib.hid hb
        clear hb
        go_wp2_with fail
        refine (HW.out _ _ HB.out).mono ?_
        rintro e w2 ⟨rfl, hb⟩
        have HB2 := Lib.hid (HB.out.trans (hb.mono HB.out.size))
        clear hb
        go_wp2_with fail
        go_ret
        exact ⟨by rw [HV.out]; rfl, HB2.out⟩
      · have e324 : (n == 324) = false := by simpa using h324
        by_cases h836 : n = 836
        · subst h836
          have HV := Lib.hid (show getS s 836 l = pendS s l from rfl)
          go_enter Tryd.func39, Tryd.ntmps39
          go_wp2_with fail
          refine (HP.out _ (Below.refl _ _)).mono ?_
          rintro e w1 ⟨rfl, hb⟩
          have HB := Lib.hid hb
          clear hb
          go_wp2_with fail
          go_ret
          exact ⟨by rw [HV.out]; rfl, HB.out⟩
        · have e836 : (n == 836) = false := by simpa using h836
          by_cases h769 : n = 769
          · subst h769
            have HV := Lib.hid (show getS s 769 l = 9223372036856090881 from rfl)
            go_enter Tryd.func39, Tryd.ntmps39
            go_wp2_with fail
            go_ret
            exact ⟨by rw [HV.out]; rfl, Below.refl _ _⟩
          · have e769 : (n == 769) = false := by simpa using h769
            by_cases h3072 : n = 3072
            · subst h3072
              have HV := Lib.hid (show getS s 3072 l = s.f 2816 from rfl)
              go_enter Tryd.func39, Tryd.ntmps39
              go_wp2_with fail
              refine (HW.out _ _ (Below.refl _ _)).mono ?_
              rintro e w1 ⟨rfl, hb⟩
              have HB := Lib.hid hb
              clear hb
              go_wp2_with fail
              go_ret
              exact ⟨by rw [HV.out]; rfl, HB.out⟩
            · have e3072 : (n == 3072) = false := by simpa using h3072
              by_cases h3074 : n = 3074
              · subst h3074
                have HV := Lib.hid (show getS s 3074 l = s.f 2818 from rfl)
                go_enter Tryd.func39, Tryd.ntmps39
                go_wp2_with fail
                refine (HW.out _ _ (Below.refl _ _)).mono ?_
                rintro e w1 ⟨rfl, hb⟩
                have HB := Lib.hid hb
                clear hb
                go_wp2_with fail
                go_ret
                exact ⟨by rw [HV.out]; rfl, HB.out⟩
              · have e3074 : (n == 3074) = false := by simpa using h3074
                by_cases h3860 : n = 3860
                · subst h3860
                  have HV := Lib.hid (show getS s 3860 l = IntKind.u64.wrap s.h from rfl)
                  go_enter Tryd.func39, Tryd.ntmps39
                  go_wp2_with fail
                  go_ret
                  exact ⟨by rw [HV.out]; rfl, Below.refl _ _⟩
                · have e3860 : (n == 3860) = false := by simpa using h3860
                  have HV := Lib.hid (show getS s n l = s.f n by unfold getS; rw [if_neg h256, if_neg h260, if_neg h324, if_neg h836, if_neg h769, if_neg h3072, if_neg h3074, if_neg h3860])
                  clear h256 h260 h324 h836 h769 h3072 h3074 h3860
                  go_enter Tryd.func39, Tryd.ntmps39
                  go_wp2_with fail
                  refine (HW.out _ _ (Below.refl _ _)).mono ?_
                  rintro e w1 ⟨rfl, hb⟩
                  have HB := Lib.hid hb
                  clear hb
                  go_wp2_with fail
                  go_ret
                  exact ⟨by rw [HV.out]; rfl, HB.out⟩
set_option maxHeartbeats 4000000 in
theorem fturn_c (g : Nat) (r : Bool) (s : S) (w : World) (hK : KeptIn w) (hg : g ≠ 2) (h : FlAt w g s) :
    Calls Tryd.prog 36 #[.pointer (some ⟨g, 0, none⟩), .bool r] w fun e w' => e = .returned (.tuple #[]) ∧ FQ g (turnS s r) w w' := by
  have HC := Lib.hid (fun n i (hi : idxK n = some i) t W (hK : KeptIn W) (h : FlAt W g t) => fcount_c g n t i hi W hK h)
  have HK := Lib.hid (fun W (hc : Chg (one g) w W) => hK.chg hc (fun (e : 2 = g) => hg e.symm))
  have HQ := Lib.hid (h.keep (Below.refl _ _))
  clear hK h hg
  obtain ⟨hh, f, a, b⟩ := s
  cases a <;> cases b <;> cases r
  · skip
    go_enter Tryd.func36, Tryd.ntmps36
    have c23 : w.cell? ⟨g, 23, none⟩ = some (.bool false) := HQ.out.fl.c23
    have c24 : w.cell? ⟨g, 24, none⟩ = some (.bool false) := HQ.out.fl.c24
    have y23 := HQ.out.fl.fz 23
    have y24 := HQ.out.fl.fz 24
    go_wp2_with fail
    refine (HC.out 2816 20 (by decide) _ _ (HK.out _ HQ.out.chg) HQ.out.fl).mono ?_
    rintro e w1 ⟨rfl, hq⟩
    have HQ1 := Lib.hid (HQ.out.then hq)
    clear hq
    have c23 : w1.cell? ⟨g, 23, none⟩ = some (.bool false) := HQ1.out.fl.c23
    have c24 : w1.cell? ⟨g, 24, none⟩ = some (.bool false) := HQ1.out.fl.c24
    have y23 := HQ1.out.fl.fz 23
    have y24 := HQ1.out.fl.fz 24
    go_wp2_with fail
    exact bodyPost_end (v := .tuple #[]) (by simp [results, Tryd.results36, go_sem]) rfl ⟨rfl, HQ1.out.flags false false⟩
  · skip
    go_enter Tryd.func36, Tryd.ntmps36
    have c23 : w.cell? ⟨g, 23, none⟩ = some (.bool false) := HQ.out.fl.c23
    have c24 : w.cell? ⟨g, 24, none⟩ = some (.bool false) := HQ.out.fl.c24
    have y23 := HQ.out.fl.fz 23
    have y24 := HQ.out.fl.fz 24
    go_wp2_with fail
    refine (HC.out 2816 20 (by decide) _ _ (HK.out _ HQ.out.chg) HQ.out.fl).mono ?_
    rintro e w1 ⟨rfl, hq⟩
    have HQ1 := Lib.hid (HQ.out.then hq)
    clear hq
    have c23 : w1.cell? ⟨g, 23, none⟩ = some (.bool false) := HQ1.out.fl.c23
    have c24 : w1.cell? ⟨g, 24, none⟩ = some (.bool false) := HQ1.out.fl.c24
    have y23 := HQ1.out.fl.fz 23
    have y24 := HQ1.out.fl.fz 24
    go_wp2_with fail
    refine (HC.out 2818 21 (by decide) _ _ (HK.out _ HQ1.out.chg) HQ1.out.fl).mono ?_
    rintro e w2 ⟨rfl, hq⟩
    have HQ2 := Lib.hid (HQ1.out.then hq)
    clear hq
    have c23 : w2.cell? ⟨g, 23, none⟩ = some (.bool false) := HQ2.out.fl.c23
    have c24 : w2.cell? ⟨g, 24, none⟩ = some (.bool false) := HQ2.out.fl.c24
    have y23 := HQ2.out.fl.fz 23
    have y24 := HQ2.out.fl.fz 24
    go_wp2_with fail
    exact bodyPost_end (v := .tuple #[]) (by simp [results, Tryd.results36, go_sem]) rfl ⟨rfl, HQ2.out.flags false false⟩
  · skip
    go_enter Tryd.func36, Tryd.ntmps36
    have c23 : w.cell? ⟨g, 23, none⟩ = some (.bool false) := HQ.out.fl.c23
    have c24 : w.cell? ⟨g, 24, none⟩ = some (.bool true) := HQ.out.fl.c24
    have y23 := HQ.out.fl.fz 23
    have y24 := HQ.out.fl.fz 24
    go_wp2_with fail
    refine (HC.out 2816 20 (by decide) _ _ (HK.out _ HQ.out.chg) HQ.out.fl).mono ?_
    rintro e w1 ⟨rfl, hq⟩
    have HQ1 := Lib.hid (HQ.out.then hq)
    clear hq
    have c23 : w1.cell? ⟨g, 23, none⟩ = some (.bool false) := HQ1.out.fl.c23
    have c24 : w1.cell? ⟨g, 24, none⟩ = some (.bool true) := HQ1.out.fl.c24
    have y23 := HQ1.out.fl.fz 23
    have y24 := HQ1.out.fl.fz 24
    go_wp2_with fail
    exact bodyPost_end (v := .tuple #[]) (by simp [results, Tryd.results36, go_sem]) rfl ⟨rfl, HQ1.out.flags false false⟩
  · skip
    go_enter Tryd.func36, Tryd.ntmps36
    have c23 : w.cell? ⟨g, 23, none⟩ = some (.bool false) := HQ.out.fl.c23
    have c24 : w.cell? ⟨g, 24, none⟩ = some (.bool true) := HQ.out.fl.c24
    have y23 := HQ.out.fl.fz 23
    have y24 := HQ.out.fl.fz 24
    go_wp2_with fail
    refine (HC.out 2816 20 (by decide) _ _ (HK.out _ HQ.out.chg) HQ.out.fl).mono ?_
    rintro e w1 ⟨rfl, hq⟩
    have HQ1 := Lib.hid (HQ.out.then hq)
    clear hq
    have c23 : w1.cell? ⟨g, 23, none⟩ = some (.bool false) := HQ1.out.fl.c23
    have c24 : w1.cell? ⟨g, 24, none⟩ = some (.bool true) := HQ1.out.fl.c24
    have y23 := HQ1.out.fl.fz 23
    have y24 := HQ1.out.fl.fz 24
    go_wp2_with fail
    exact bodyPost_end (v := .tuple #[]) (by simp [results, Tryd.results36, go_sem]) rfl ⟨rfl, HQ1.out.flags false false⟩
  · skip
    go_enter Tryd.func36, Tryd.ntmps36
    have c23 : w.cell? ⟨g, 23, none⟩ = some (.bool true) := HQ.out.fl.c23
    have c24 : w.cell? ⟨g, 24, none⟩ = some (.bool false) := HQ.out.fl.c24
    have y23 := HQ.out.fl.fz 23
    have y24 := HQ.out.fl.fz 24
    go_wp2_with fail
    exact bodyPost_end (v := .tuple #[]) (by simp [results, Tryd.results36, go_sem]) rfl ⟨rfl, HQ.out.flags false false⟩
  · skip
    go_enter Tryd.func36, Tryd.ntmps36
    have c23 : w.cell? ⟨g, 23, none⟩ = some (.bool true) := HQ.out.fl.c23
    have c24 : w.cell? ⟨g, 24, none⟩ = some (.bool false) := HQ.out.fl.c24
    have y23 := HQ.out.fl.fz 23
    have y24 := HQ.out.fl.fz 24
    go_wp2_with fail
    refine (HC.out 2818 21 (by decide) _ _ (HK.out _ HQ.out.chg) HQ.out.fl).mono ?_
    rintro e w1 ⟨rfl, hq⟩
    have HQ1 := Lib.hid (HQ.out.then hq)
    clear hq
    have c23 : w1.cell? ⟨g, 23, none⟩ = some (.bool true) := HQ1.out.fl.c23
    have c24 : w1.cell? ⟨g, 24, none⟩ = some (.bool false) := HQ1.out.fl.c24
    have y23 := HQ1.out.fl.fz 23
    have y24 := HQ1.out.fl.fz 24
    go_wp2_with fail
    exact bodyPost_end (v := .tuple #[]) (by simp [results, Tryd.results36, go_sem]) rfl ⟨rfl, HQ1.out.flags false false⟩
  · skip
    go_enter Tryd.func36, Tryd.ntmps36
    have c23 : w.cell? ⟨g, 23, none⟩ = some (.bool true) := HQ.out.fl.c23
    have c24 : w.cell? ⟨g, 24, none⟩ = some (.bool true) := HQ.out.fl.c24
    have y23 := HQ.out.fl.fz 23
    have y24 := HQ.out.fl.fz 24
    go_wp2_with fail
    exact bodyPost_end (v := .tuple #[]) (by simp [results, Tryd.results36, go_sem]) rfl ⟨rfl, HQ.out.flags false false⟩
  · skip
    go_enter Tryd.func36, Tryd.ntmps36
    have c23 : w.cell? ⟨g, 23, none⟩ = some (.bool true) := HQ.out.fl.c23
    have c24 : w.cell? ⟨g, 24, none⟩ = some (.bool true) := HQ.out.fl.c24
    have y23 := HQ.out.fl.fz 23
    have y24 := HQ.out.fl.fz 24
    go_wp2_with fail
    exact bodyPost_end (v := .tuple #[]) (by simp [results, Tryd.results36, go_sem]) rfl ⟨rfl, HQ.out.flags false false⟩
theorem wS_class (op : Int) : (classS op != 8) = !(classS op == 8) := rfl
def wrS (op rs1 : Int) : Bool := classS op == 8 && (op == 89 || op == 92 || rs1 != 0)
set_option maxHeartbeats 2000000 in
theorem fwrites_c (op rs1 : Int) (w : World) : Calls Tryd.prog 34 #[.int .i64 op, .int .i64 rs1] w fun e w' => e = .returned (.bool (wrS op rs1)) ∧ w = w' := by
  have HC := Lib.hid (fun W => class_c op W)
  have HV := Lib.hid (show wrS op rs1 = (classS op == 8 && ((op == 89 || op == 92) || rs1 != 0)) from rfl)
  generalize classS op = c at *
  generalize wrS op rs1 = z at *
  cases hc : (c == 8)
  · have hc' : (c != 8) = true := by rw [bne, hc]; rfl
    rw [hc] at HV
    clear hc
    go_enter Tryd.func34, Tryd.ntmps34
    go_wp2_with fail
    refine (HC.out _).mono ?_
    rintro e w2 ⟨rfl, rfl⟩
    go_wp2_with fail
    go_ret
    exact ⟨by rw [HV.out]; rfl, rfl⟩
  · have hc' : (c != 8) = false := by rw [bne, hc]; rfl
    rw [hc] at HV
    clear hc
    cases h1 : (op == 89) <;> cases h2 : (op == 92)
    all_goals
      rw [h1, h2] at HV
      go_enter Tryd.func34, Tryd.ntmps34
      go_wp2_with fail
      refine (HC.out _).mono ?_
      rintro e w2 ⟨rfl, rfl⟩
      go_wp2_with fail
      go_ret
      exact ⟨by rw [HV.out]; rfl, rfl⟩
def wtS (op x v : Int) : Int := if op = 90 ∨ op = 93 then bits .or .u64 x v else if op = 91 ∨ op = 94 then bits .andNot .u64 x v else v
theorem wtS_64 (op : Int) {x v : Int} (hx : W64 x) (hv : W64 v) : W64 (wtS op x v) := by
  unfold wtS
  split
  · exact or_range hx.1 hx.2 hv.1 hv.2
  · split
    · exact andNot_range hx.1 hx.2 hv.1 hv.2
    · exact hv
set_option maxHeartbeats 2000000 in
theorem fwritten_c (op x v : Int) (w : World) : Calls Tryd.prog 77 #[.int .i64 op, .int .u64 x, .int .u64 v] w fun e w' => e = .returned (.int .u64 (wtS op x v)) ∧ w = w' := by
  by_cases h90 : op = 90
  · subst h90
    have HV := Lib.hid (show wtS 90 x v = bits .or .u64 x v by unfold wtS; simp)
    go_enter Tryd.func77, Tryd.ntmps77
    go_wp2_with fail
    go_ret
    exact ⟨by rw [HV.out]; rfl, rfl⟩
  · have e90 : (op == 90) = false := by simpa using h90
    by_cases h93 : op = 93
    · subst h93
      have HV := Lib.hid (show wtS 93 x v = bits .or .u64 x v by unfold wtS; simp)
      go_enter Tryd.func77, Tryd.ntmps77
      go_wp2_with fail
      go_ret
      exact ⟨by rw [HV.out]; rfl, rfl⟩
    · have e93 : (op == 93) = false := by simpa using h93
      by_cases h91 : op = 91
      · subst h91
        have HV := Lib.hid (show wtS 91 x v = bits .andNot .u64 x v by unfold wtS; simp)
        go_enter Tryd.func77, Tryd.ntmps77
        go_wp2_with fail
        go_ret
        exact ⟨by rw [HV.out]; rfl, rfl⟩
      · have e91 : (op == 91) = false := by simpa using h91
        by_cases h94 : op = 94
        · subst h94
          have HV := Lib.hid (show wtS 94 x v = bits .andNot .u64 x v by unfold wtS; simp)
          go_enter Tryd.func77, Tryd.ntmps77
          go_wp2_with fail
          go_ret
          exact ⟨by rw [HV.out]; rfl, rfl⟩
        · have e94 : (op == 94) = false := by simpa using h94
          have HV := Lib.hid (show wtS op x v = v by unfold wtS; rw [if_neg (by omega), if_neg (by omega)])
          go_enter Tryd.func77, Tryd.ntmps77
          go_wp2_with fail
          go_ret
          exact ⟨by rw [HV.out]; rfl, rfl⟩
def doS (s : S) (op n rs1 v : Int) : S := if classS op == 8 then (if wrS op rs1 then setS s n (wtS op (getS s n 0) v) else s) else s
def doV (s : S) (op n l : Int) : Int := if classS op == 8 then getS s n l else 0
theorem doS_ok {s : S} (h : Ok s) (op n rs1 : Int) {v : Int} (hv : W64 v) : Ok (doS s op n rs1 v) := by
  unfold doS
  repeat' split
  · exact setS_ok h n (wtS_64 op (get_64 h n ⟨by omega, by omega⟩) hv)
  · exact h
  · exact h
abbrev InT : TypeId := 65
/-- What stands while Do reckons: the file, the instruction in its box, the tables. -/
structure DxS (w W : World) (g bx : Nat) (s : S) (cs : Array Value) : Prop where
  fl : FlAt W g s
  b : CsAt W bx InT cs
  r : RowsIn W
  k : KeptIn W
  bel : Below w.heap.size w W
theorem DxS.low {w W W' : World} {g bx : Nat} {s : S} {cs : Array Value} (h : DxS w W g bx s cs) (hb : Below W.heap.size W W') : DxS w W' g bx s cs := ⟨h.fl.low hb, h.b.low hb, h.r.low hb, h.k.low hb, h.bel.trans (hb.mono h.bel.size)⟩
theorem DxS.drew {w W : World} {g bx : Nat} {s : S} {cs : Array Value} (h : DxS w W g bx s cs) : DxS w W.drew g bx s cs := ⟨h.fl.drew, h.b, h.r, h.k, h.bel.drew⟩
set_option maxHeartbeats 4000000 in
theorem fdo_c (g : Nat) (op rd rs1 rs2 imm n v l : Int) (aq rl : Bool) (s : S) (hv : W64 v) (w : World) (hN : RowsIn w) (hK : KeptIn w) (h : FlAt w g s) :
    Calls Tryd.prog 41 #[.pointer (some ⟨g, 0, none⟩), .agg #[.int .i64 op, .int .i64 rd, .int .i64 rs1, .int .i64 rs2, .int .i64 imm, .int .i64 n, .bool aq, .bool rl], .int .u64 v, .int .u64 l] w fun e w' => e = .returned (.int .u64 (doV s op n l)) ∧ FQ g (doS s op n rs1 v) w w' := by
  have hB : Below w.heap.size w (w.alloc (.cells #[.int .i64 op, .int .i64 rd, .int .i64 rs1, .int .i64 rs2, .int .i64 imm, .int .i64 n, .bool aq, .bool rl] InT)) := (Below.refl _ _).alloc (Nat.le_refl _) _
  have HS := Lib.hid (show DxS w (w.alloc (.cells #[.int .i64 op, .int .i64 rd, .int .i64 rs1, .int .i64 rs2, .int .i64 imm, .int .i64 n, .bool aq, .bool rl] InT)) g w.heap.size s #[.int .i64 op, .int .i64 rd, .int .i64 rs1, .int .i64 rs2, .int .i64 imm, .int .i64 n, .bool aq, .bool rl] from ⟨h.low hB, CsAt.new w InT _, hN.low hB, hK.low hB, hB⟩)
  have HC := Lib.hid (fun W => class_c op W)
  have HW := Lib.hid (fun W => fwrites_c op rs1 W)
  have HU := Lib.hid (show doS s op n rs1 v = if classS op == 8 then (if wrS op rs1 then setS s n (wtS op (getS s n 0) v) else s) else s from rfl)
  have HV := Lib.hid (show doV s op n l = if classS op == 8 then getS s n l else 0 from rfl)
  have HX := Lib.hid (wtS_64 op (get_64 h.ok n (l := 0) ⟨by omega, by omega⟩) hv)
  clear hN hK h hB hv
  generalize classS op = c at *
  have q0 := HS.out.b.cell 0
  have q2 := HS.out.b.cell 2
  have q5 := HS.out.b.cell 5
  simp only [List.getElem?_toArray, List.getElem?_cons_zero, List.getElem?_cons_succ] at q0 q2 q5
  cases hc : (c == 8)
  · have hc' : (c != 8) = true := by rw [bne, hc]; rfl
    rw [hc] at HU HV
    clear hc
    go_enter Tryd.func41, Tryd.ntmps41
    go_upto_region 1 with fail
    generalize w.alloc (.cells #[.int .i64 op, .int .i64 rd, .int .i64 rs1, .int .i64 rs2, .int .i64 imm, .int .i64 n, .bool aq, .bool rl] InT) = w1 at *
    go_wp2_with fail
    refine (HC.out _).mono ?_
    rintro e w2 ⟨rfl, rfl⟩
    go_wp2_with fail
    go_ret
    exact ⟨by rw [HV.out]; rfl, by rw [HU.out]; exact ⟨HS.out.fl, Chg.of_below HS.out.bel⟩⟩
  · have hc' : (c != 8) = false := by rw [bne, hc]; rfl
    rw [hc] at HU HV
    clear hc
    cases hw : wrS op rs1
    all_goals
      rw [hw] at HU HW
      clear hw
      go_enter Tryd.func41, Tryd.ntmps41
      go_upto_region 1 with fail
      generalize w.alloc (.cells #[.int .i64 op, .int .i64 rd, .int .i64 rs1, .int .i64 rs2, .int .i64 imm, .int .i64 n, .bool aq, .bool rl] InT) = w1 at *
      go_wp2_with fail
      refine (HC.out _).mono ?_
      rintro e w2 ⟨rfl, rfl⟩
      go_wp2_with fail
      refine (fcget_c g n l s _ HS.out.k HS.out.fl).mono ?_
      rintro e w3 ⟨rfl, hb⟩
      have HS3 := Lib.hid (HS.out.low hb)
      clear hb HS q0 q2 q5
      have q0 := HS3.out.b.cell 0
      have q2 := HS3.out.b.cell 2
      simp only [List.getElem?_toArray, List.getElem?_cons_zero, List.getElem?_cons_succ] at q0 q2
      go_wp2_with fail
      refine (HW.out _).mono ?_
      rintro e w4 ⟨rfl, rfl⟩
    · go_wp2_with fail
      go_ret
      exact ⟨by rw [HV.out]; rfl, by rw [HU.out]; exact ⟨HS3.out.fl, Chg.of_below HS3.out.bel⟩⟩
    · go_upto_region 5 with fail
      refine wp_region_steady_tail (fun W => DxS w W g w.heap.size s #[.int .i64 op, .int .i64 rd, .int .i64 rs1, .int .i64 rs2, .int .i64 imm, .int .i64 n, .bool aq, .bool rl]) 11 (by kernel_rfl) (by kernel_rfl) HS3.out.drew ?_
      iterate 2
        refine steady_val ?_ ?_ (by kernel_rfl) (fun W hS => ?_) ?_ ?_
        rotate_left 2
        · go_simp
          exact rfl
        · go_simp
          exact rfl
      refine steady_val ?_ ?_ (by kernel_rfl) (fun W hS => ?_) ?_ ?_
      rotate_left 2
      · have q := hS.b.cell 5; simp only [List.getElem?_toArray, List.getElem?_cons_zero, List.getElem?_cons_succ] at q; go_simp
        exact rfl
      · go_simp
        exact rfl
      refine steady_val ?_ ?_ (by kernel_rfl) (fun W hS => ?_) ?_ ?_
      rotate_left 2
      · go_simp
        exact rfl
      · go_simp
        exact rfl
      refine steady_val ?_ ?_ (by kernel_rfl) (fun W hS => ?_) ?_ ?_
      rotate_left 2
      · have q := hS.b.cell 0; simp only [List.getElem?_toArray, List.getElem?_cons_zero] at q; go_simp
        exact rfl
      · go_simp
        exact rfl
      iterate 2
        refine steady_val ?_ ?_ (by kernel_rfl) (fun W hS => ?_) ?_ ?_
        rotate_left 2
        · go_simp
          exact rfl
        · go_simp
          exact rfl
      refine steady_val ?_ ?_ (by kernel_rfl) (fun W hS => ?_) ?_ ?_
      rotate_left 2
      · have q := hS.b.cell 5; simp only [List.getElem?_toArray, List.getElem?_cons_zero, List.getElem?_cons_succ] at q; go_simp
        exact rfl
      · go_simp
        exact rfl
      refine steady_enter (.int .u64 (getS s n 0)) 39 #[.pointer (some ⟨g, 0, none⟩), .int .i64 n, .int .u64 0] ?_ (by kernel_rfl) (fun W hS => ?_) (fun W hS => (fcget_c g n 0 s W hS.k hS.fl).mono (by rintro e w' ⟨rfl, hb⟩; exact ⟨rfl, hS.low hb⟩)) ?_ ?_
      rotate_left 1
      · go_simp
      · go_simp
        exact rfl
      refine steady_val ?_ ?_ (by kernel_rfl) (fun W hS => ?_) ?_ ?_
      rotate_left 2
      · go_simp
        exact rfl
      · go_simp
        exact rfl
      refine steady_enter (.int .u64 (wtS op (getS s n 0) v)) 77 #[.int .i64 op, .int .u64 (getS s n 0), .int .u64 v] ?_ (by kernel_rfl) (fun W hS => ?_) (fun W hS => (fwritten_c op (getS s n 0) v W).mono (by rintro e w' ⟨rfl, rfl⟩; exact ⟨rfl, hS⟩)) ?_ ?_
      rotate_left 1
      · go_simp
      · go_simp
        exact rfl
      refine steady_nil ?_
      intro W hS
      have HSET := Lib.hid (fset_c g n (wtS op (getS s n 0) v) s HX.out W hS.r hS.k hS.fl)
      have HBW := Lib.hid hS.bel
      clear hS HS3 q0 q2
      simp only [List.drop_succ_cons, List.drop_zero]
      go_wp2_with fail
      refine HSET.out.mono ?_
      rintro e w5 ⟨rfl, hq⟩
      have HQ := Lib.hid (hq.after HBW.out)
      clear hq
      go_wp2_with fail
      go_ret
      exact ⟨by rw [HV.out]; rfl, by rw [HU.out]; exact HQ.out⟩
end Go.Proofs.YtfjdalepaacmgaaDoor
