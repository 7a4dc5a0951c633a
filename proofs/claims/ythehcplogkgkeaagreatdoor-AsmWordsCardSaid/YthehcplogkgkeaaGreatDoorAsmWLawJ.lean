/-
  The statement AsmWords (P6.3), tied card: for every text and words, roebucklaw06.AsmWords returns true and its arguments read afterwards as before. Condition: the listed variables hold what the program's text lays (the card ties them; unicode/utf8.first is pinned).
-/
import Derived.Test.YthehcplogkgkeaaGreatDoorSf
import Derived.Test.YthehcplogkgkeaaGreatDoorSg
import Derived.Test.YthehcplogkgkeaaGreatDoorTie
import Derived.Test.YthehcplogkgkeaaGreatDoorCards
import Derived.SevenTiedAt
import Derived.ChangeMaps5
set_option maxRecDepth 4000
namespace Go.Proofs.YthehcplogkgkeaaGreatDoor
open Go.ChangeShapes Go.WideShapes Go.ChangeAt Go.RowKit Go.ChangeMaps Wd Num

theorem wrd_range {x : Fl} (h : checkF x = 0) : 0 ≤ wrd x ∧ wrd x < 4294967296 := by
  have hc : checkS x.op x.rd x.rs1 x.rs2 x.imm x.csr x.aq x.rl = 0 := h
  obtain ⟨⟨o1, o2⟩, -⟩ := check_ok hc
  obtain ⟨k, hk⟩ : ∃ k : Nat, x.op = (k : Int) := ⟨x.op.toNat, by omega⟩
  rw [hk] at hc
  obtain ⟨V, hV, he, -⟩ := dec_of_enc k (by omega) (by omega) x.rd x.rs1 x.rs2 x.imm x.csr x.aq x.rl hc
  unfold wrd
  rw [hk, he]
  omega
theorem preW_range {L : List (List UInt8)} : ∀ (k : Nat) {ws : List Int}, preW L k = .ok ws → ∀ x ∈ ws, 0 ≤ x ∧ x < 4294967296
  | 0, ws, h => by cases h; simp
  | k + 1, ws, h => by
    cases hk : preW L k with
    | error e => rw [preW_err hk 1] at h; cases h
    | ok vs =>
      have h1 := preW_range k hk
      by_cases hs : skipB (L.getD k []) = true
      · rw [preW_skip hk hs] at h; cases h; exact h1
      · have hs' : skipB (L.getD k []) = false := by simpa using hs
        cases he : refE (L.getD k []) with
        | error e => rw [preW_bad hk hs' he] at h; cases h
        | ok x =>
          rw [preW_add hk hs' he] at h
          cases h
          intro y hy
          rcases List.mem_append.1 hy with h2 | h2
          · exact h1 y h2
          · obtain rfl : y = wrd x := by simpa using h2
            exact wrd_range (refE_ok he)
theorem resW_range {L : List (List UInt8)} {k : Nat} {ws : List Int} {n er : Int} (h : resW (preW L k) = (ws, n, er)) : ws.length ≤ k ∧ ∀ x ∈ ws, 0 ≤ x ∧ x < 4294967296 := by
  cases hp : preW L k with
  | error e => rw [hp] at h; simp only [resW, Prod.mk.injEq] at h; obtain ⟨rfl, -, -⟩ := h; simp
  | ok vs => rw [hp] at h; simp only [resW, Prod.mk.injEq] at h; obtain ⟨rfl, -, -⟩ := h; exact ⟨preW_len k hp, preW_range k hp⟩
/-- Numbers of a slice. -/
def NumsAt (k : IntKind) (W : World) (ao : Option Addr) (ws : List Int) : Prop := ∀ j, j < ws.length → ∃ g, ao = some ⟨g, 0, none⟩ ∧ W.cell? ⟨g, j, none⟩ = some (.int k (ws.getD j 0))
theorem NumsAt.low {k : IntKind} {W W' : World} {ao : Option Addr} {ws : List Int} (h : NumsAt k W ao ws) (hb : Below W.heap.size W W') : NumsAt k W' ao ws := fun j hj => by
  obtain ⟨g, e, hc⟩ := h j hj
  exact ⟨g, e, (hb.cell (p := ⟨g, j, none⟩) (lt_cell hc)).trans hc⟩
theorem nums_open {k : IntKind} {T : TypeId} {base : Nat} {w : World} {v : Value} {ws : List Int} (h : w.ownsRow base T 1 v ws.length (ws.map (Value.int k))) : ∃ ao cap, v = .slice ao ws.length cap ∧ NumsAt k w ao ws := by
  have h0 := h
  obtain ⟨hx, ⟨hv, hn⟩ | ⟨g, cap, cur, rfl, hg, hc, hle, hm, hs, ht⟩⟩ := h
  · refine ⟨none, 0, by rw [hv, hn], fun j hj => absurd hj (by omega)⟩
  · refine ⟨some ⟨g, 0, none⟩, cap, rfl, fun j hj => ⟨g, rfl, ?_⟩⟩
    have := h0.cells (g := g) rfl j (.int k (ws.getD j 0)) (by simp [List.getD, hj])
    rw [show (⟨g, 0, none⟩ : Addr).add j = ⟨g, j, none⟩ by cases j <;> simp [Addr.add]] at this
    exact this
set_option maxHeartbeats 4000000 in
theorem awords_in (t : List UInt8) (ao : Option Addr) (n cap : Nat) (l : List Nat) (w : World) (hm : MemW w) (ht : ¬ 3000 < (bs6 t).size) (hn : ¬ 100 < n) (hl : IsW w ao n l) :
    Calls Tryz.prog 5 #[.string (bs6 t), .slice ao n cap] w fun e w' => e = .returned (.bool true) ∧ Below w.heap.size w w' := by
  have e1 : decide (3000 < ((bs6 t).size : Int)) = false := by simp; omega
  have e2 : decide (100 < (n : Int)) = false := by simp; omega
  have htl : t.length ≤ 3000 := by rw [bs6_size] at ht; omega
  have HM := Lib.hid hm
  have HPW := Lib.hid (fun W (h : MemW W) => words_c t (by omega) W h)
  have HRW := Lib.hid (fun W => refWords_c t htl W)
  obtain ⟨rfl, -, hwa, hwb⟩ := hl
  have HWA := Lib.hid hwa
  have HLI := Lib.hid (fun W (h : MemW W) (hc : WordsAt W ao l) => listing_c ao cap l (by omega) hwb W h hc)
  have HRL := Lib.hid (fun W (hc : WordsAt W ao l) => refListing_c ao cap l (by omega) hwb W hc)
  have HRR := Lib.hid (fun ws n er => resW_range (L := Wdn.lns t) (k := (Wdn.lns t).length) (ws := ws) (n := n) (er := er))
  have HLL := Lib.hid (show (Wdn.lns t).length ≤ 3001 from Nat.le_trans (Wdn.lns_len t) (by omega))
  clear hm ht hn htl hwa hwb
  generalize hr : preW (Wdn.lns t) (Wdn.lns t).length = r at *
  clear hr
  generalize bs6 t = S at *
  generalize bs6 (listL l) = LS at *
  have hls : (LS.toList == LS.toList) = true := by simp
  go_enter Tryz.func5, Tryz.ntmps5
  go_wp2_with fail
  refine (HPW.out _ HM.out).mono ?_
  rintro e w1 ⟨v1, ws, n1, er, rfl, hres, hown1, hb⟩
  obtain ⟨hwl, hwr⟩ := HRR.out _ _ _ hres
  obtain ⟨ao1, cap1, rfl, hN1⟩ := nums_open hown1
  have HB1 := Lib.hid hb
  have HN1 := Lib.hid hN1
  have HWR := Lib.hid hwr
  have HRES := Lib.hid hres
  clear hb hN1 hown1 hwr hres
  go_wp2_with fail
  refine (HRW.out _).mono ?_
  rintro e w2 ⟨v2, ws2, n2, er2, rfl, hres2, hown2, hb⟩
  obtain ⟨rfl, rfl, rfl⟩ : ws2 = ws ∧ n2 = n1 ∧ er2 = er := by
    have h := hres2.symm.trans HRES.out
    simpa using h
  obtain ⟨ao2, cap2, rfl, hN2⟩ := nums_open hown2
  have HB2 := Lib.hid (HB1.out.trans (hb.mono HB1.out.size))
  have HN1b := Lib.hid (HN1.out.low hb)
  have HN2 := Lib.hid hN2
  clear hb hN2 hown2 hres2
  obtain ⟨m, hmw⟩ : ∃ m, ws2.length = m := ⟨_, rfl⟩
  have HMW := Lib.hid hmw
  have hm3 : m ≤ 3001 := by have := HLL.out; omega
  rw [hmw]
  clear hmw hwl
  go_wp2_with fail
  go_loopw [11] (fun i wr => ∃ k : Nat, k ≤ m ∧ i = .int .i64 k ∧ Below w2.heap.size w2 wr) (fun i _ => m - (intOf i).toNat)
  case atStart => exact ⟨0, Nat.zero_le _, rfl, Below.refl _ _⟩
  case round =>
    obtain ⟨k, hk, rfl, hb⟩ := hrel
    have HBr := Lib.hid hb
    clear hb
    by_cases hlt : k < m
    · obtain ⟨g1, rfl, c1⟩ := HN1b.out k (by rw [HMW.out]; exact hlt)
      obtain ⟨g2, rfl, c2⟩ := HN2.out k (by rw [HMW.out]; exact hlt)
      have hx := HWR.out (ws2.getD k 0) (by simp [List.getD, show k < ws2.length by rw [HMW.out]; exact hlt])
      have hlt2 : (k : Int) < (m : Int) := by omega
      generalize ws2.getD k 0 = x at *
      have hwx : IntKind.u64.wrap x = x := IntWalk.u64_in _ (by omega)
      have HC1 := Lib.hid (show ∀ W, Below w2.heap.size w2 W → W.cell? ⟨g1, k, none⟩ = some (.int .u32 x) from fun W h => (h.cell (p := ⟨g1, k, none⟩) (lt_cell c1)).trans c1)
      have HC2 := Lib.hid (show ∀ W, Below w2.heap.size w2 W → W.cell? ⟨g2, k, none⟩ = some (.int .u64 x) from fun W h => (h.cell (p := ⟨g2, k, none⟩) (lt_cell c2)).trans c2)
      clear c1 c2 hx
      go_upto_region 10 with fail
      refine wp_region_steady (fun W => Below w2.heap.size w2 W) (by kernel_rfl) (by kernel_rfl) HBr.out.drew ?_
      iterate 10
        refine steady_val ?_ ?_ (by rfl) (fun W hS => ?_) ?_ ?_
        rotate_left 2
        · have c1 := HC1.out W hS
          have c2 := HC2.out W hS
          go_simp
          exact rfl
        · go_simp
          exact rfl
      refine steady_nil ?_
      rintro W hS
      have HBw := Lib.hid hS
      clear hS
      go_wp2_with fail
      go_roundw
      case rel => exact ⟨k + 1, by omega, by go_num, HBw.out⟩
      case measure => simp [intOf]; omega
    · obtain rfl : k = m := by omega
      have HB3 := Lib.hid (HB2.out.trans (HBr.out.mono HB2.out.size))
      go_wp2_with fail
      refine (HLI.out _ (HM.out.low HB3.out) (HWA.out.low HB3.out)).mono ?_
      rintro e w3 ⟨rfl, hb⟩
      have HB4 := Lib.hid (HB3.out.trans (hb.mono HB3.out.size))
      clear hb
      go_wp2_with fail
      refine (HRL.out _ (HWA.out.low HB4.out)).mono ?_
      rintro e w4 ⟨rfl, hb⟩
      have HB5 := Lib.hid (HB4.out.trans (hb.mono HB4.out.size))
      clear hb
      go_wp2_with fail
      refine (live6_c _ (HM.out.low HB5.out).m).mono ?_
      rintro e w5 ⟨rfl, hb⟩
      have HB6 := Lib.hid (HB5.out.trans (hb.mono HB5.out.size))
      clear hb
      go_wp2_with fail
      go_ret
      exact ⟨rfl, HB6.out⟩
set_option maxHeartbeats 400000 in
theorem asmw_out (s : ByteArray) (ao : Option Addr) (n cap : Nat) (_hs : s.size ≤ maxLen) (hn2 : n ≤ 9223372036854775807) (w : World) (hm : MemW w) (h : 3000 < s.size ∨ 100 < n) :
    Calls Tryz.prog 5 #[.string s, .slice ao n cap] w fun e w' => e = .returned (.bool true) ∧ Below w.heap.size w w' := by
  have HM := Lib.hid hm
  clear hm
  unfold maxLen at _hs
  by_cases h1 : 3000 < s.size
  · have el : decide (3000 < (s.size : Int)) = true := by simp; omega
    clear h
    go_enter Tryz.func5, Tryz.ntmps5
    go_wp2_with fail
    refine (live6_c _ HM.out.m).mono ?_
    rintro e w2 ⟨rfl, hb⟩
    have HB5 := Lib.hid hb
    clear hb
    go_wp2_with fail
    go_ret
    exact ⟨rfl, HB5.out⟩
  · have el : decide (3000 < (s.size : Int)) = false := by simp; omega
    have el2 : decide (100 < (n : Int)) = true := by simp; omega
    clear h
    go_enter Tryz.func5, Tryz.ntmps5
    go_wp2_with fail
    refine (live6_c _ HM.out.m).mono ?_
    rintro e w2 ⟨rfl, hb⟩
    have HB5 := Lib.hid hb
    clear hb
    go_wp2_with fail
    go_ret
    exact ⟨rfl, HB5.out⟩
theorem asmw_walk (s : ByteArray) (ao : Option Addr) (n cap : Nat) (l : List Nat) (hs : s.size ≤ maxLen) (w : World) (hl : IsW w ao n l) (hm : MemW w) :
    Calls Tryz.prog 5 #[.string s, .slice ao n cap] w fun e w' => e = .returned (.bool true) ∧ Below w.heap.size w w' := by
  by_cases h : 3000 < s.size ∨ 100 < n
  · exact asmw_out s ao n cap hs hl.2.1 w hm h
  · have e6 := bs6_self s
    exact e6 ▸ awords_in s.data.toList ao n cap l w hm (by rw [e6]; omega) (by omega) hl

set_option maxRecDepth 100000 in
theorem asmw_lifted (os : Os) (started : os.Started) (H : Type) (enc : TypeId × Value → H) :
    ReturnsInHanded {} Tryz.checked os 5 .any (fun w args => (Rows.asmWordsSpec.pre enc Tryz.prog Tryz.f5 [] false w args ∧ laidMetH Tryz.prog laidB w) ∧ sizedMet enc Tryz.prog Tryz.f5 (OpenSpec.ofChange Rows.asmWordsSpec) false w args)
      (Rows.asmWordsSpec.post enc Tryz.prog Tryz.f5 false true false false) := by
  refine returns_and_shaped (C := Tryz.checked) (X := fun w _ => laidMetH Tryz.prog laidB w) (fun _ _ _ hh h => h.of_heap hh) own started (by kernel_rfl) Tryz.func5
    (ChangeSpec.witness_shaped (enc := enc) (C := Tryz.checked) (os := os) (X := fun w _ => laidMetH Tryz.prog laidB w) false ((World.doorLaid Tryz.prog 400 os).setRow 10 firstC) #[.string ⟨#[]⟩, .slice none 0 0] 8 rfl (World.shaped_of_RefB (by kernel_rfl) (by kernel_rfl)) (by kernel_rfl) (by kernel_rfl) (by kernel_rfl) (doorB_met os _)) ?_
  intro W base args ds gs before hval0 hW _ hL hsh
  have hval : ∀ (j : Nat) t v, Tryz.f5.params[j]? = some t → args[j]? = some v → Value.okWide Tryz.prog W .any base t v := hval0
  have hW' := hW
  obtain ⟨p, q, hA0, hV, rfl, hfz, hnd⟩ := hW
  have hA : DataW.TrodAll enc Tryz.prog W 0 (fun _ => true) true Tryz.f5.params.toList args.toList ds p := hA0
  rw [Tryz.params5] at hA hval
  obtain ⟨v0, vs0, d0, ds0, p0, q0, hargs, rfl, rfl, h0, r0⟩ := trodAll_cons hA
  obtain ⟨v1, vs1, d1, ds1, p1, q1, rfl, rfl, rfl, h1, r1⟩ := trodAll_cons r0
  obtain ⟨rfl, rfl, rfl⟩ := trodAll_nil r1
  obtain rfl : args = #[v0, v1] := by cases args; simp_all
  obtain ⟨rfl, rfl⟩ := trodVars_none hV
  obtain ⟨a0, rfl, rfl, rfl, w0⟩ := open_string Tryz.underlying9 (hval 0 9 v0 rfl rfl) h0
  have k1 := h1
  have lt1 : ∀ x ∈ p1, x.block < W.heap.size := by obtain ⟨m, hm⟩ := k1; exact DataW.trod_lt m _ _ _ hm
  obtain ⟨ao1, n1, cap1, l1, rfl, w1⟩ := open_words (hval 1 35 v1 rfl rfl) h1
  have hvv := of_laidB hL hsh
  clear hA0 hval0
  refine (asmw_walk a0 ao1 n1 cap1 l1 w0 W w1 hvv).mono fun e W' ⟨he, bel⟩ => ?_
  subst he
  exact ⟨_, rfl, _, _, _, [], _, [], hW', trodAll_mk1 (shut_bool Tryz.underlying4 _), (trodAll_cons_mk (shut_string Tryz.underlying9 w0) (trodAll_cons_mk (Below.trod laidOut (by kernel_rfl) (of_decide_eq_true (by kernel_rfl)) k1 bel lt1) trodAll_mk0)), rfl, bel.frame _, fun h => by cases h⟩

theorem asmw_over : Rows.asmWordsRow.holds Tryz.pinned (OpenSpec.ofChange Rows.asmWordsSpec) :=
  OpenClaim.holds_of_wide 5 Tryz.f5 rfl rfl rfl rfl rfl rfl rfl ⟨rfl, rfl, rfl, rfl, rfl⟩ rfl rfl rfl rfl rfl (by kernel_rfl) Tryz.func5 (by kernel_rfl)
    (of_decide_eq_true (by kernel_rfl)) (by unfold Func.isWrapper; first | (rw [if_pos (by decide +kernel)]; kernel_rfl) | (rw [if_neg (by decide +kernel)]; exact ⟨rfl, rfl⟩))
    (fun os started H enc _ => asmw_lifted os started H enc)

theorem asmw_said : Rows.AsmWordsCardSaid :=
  Claim7.holds_tied_plain_at .later [] [.data, .data, .data, .data, .data, .data, .sentinel, .sentinel, .data, .data, .pinned] true Rows.asmWordsCard.stood.harness Rows.asmWordsCard.stood.looks
    asmw_over (fun _ h => by cases h) (by kernel_rfl) (fun _ h => by cases h) asmWords_row_tie rfl ⟨rfl, rfl⟩ (by kernel_rfl) rfl
    (fun f fn hf hfn => by
      obtain rfl : f = 5 := Option.some.inj ((show Tryz.prog.funcNamed "roebuck/roebucklaw06.AsmWords" = some 5 by kernel_rfl).symm.trans hf) |>.symm
      obtain rfl : fn = Tryz.f5 := (Option.some.inj (Tryz.func5.symm.trans hfn)).symm
      exact ⟨by kernel_rfl, fun j t ht => by
        rw [Tryz.params5] at ht
        have hm : t ∈ [9, 35] := by simpa using Array.mem_of_getElem? ht
        have hall : ([9, 35].all fun u => !Tryz.prog.wantsStandIn u) = true := by kernel_rfl
        exact (show Tryz.prog.wantsStandIn t = false by simpa using List.all_eq_true.1 hall t hm)⟩)
    (by kernel_rfl)
end Go.Proofs.YthehcplogkgkeaaGreatDoor
