/-
  The contract of asm.Words (layer 6). The contract of the reference's Words (layer 6).
-/
import Derived.Test.YthehcplogkgkeaaGreatDoorSe
set_option maxRecDepth 4000
namespace Go.Proofs.YthehcplogkgkeaaGreatDoor
open Go.ChangeShapes Go.WideShapes Go.ChangeAt Go.RowKit Wd Num

theorem info_u32 : (Tryz.prog.info? 42).map (fun i => (i.zero, i.size, i.bytes)) = some (some (.int .u32 0), 1, 4) := by kernel_rfl
def strSz : Value → Nat
  | .string b => b.size
  | _ => 0
theorem drewN_below (w : World) (n : Nat) : Below w.heap.size w (w.drewN n) := by
  induction n with
  | zero => exact Below.refl _ _
  | succ n ih => exact ih.drew
theorem getD_drop {L : List (List UInt8)} {k : Nat} {a : List UInt8} {r : List (List UInt8)} (h : L.drop k = a :: r) : k < L.length ∧ L.getD k [] = a ∧ L.drop (k + 1) = r := by
  have hk : k < L.length := by
    rcases Nat.lt_or_ge k L.length with h1 | h1
    · exact h1
    · rw [List.drop_eq_nil_of_le h1] at h; cases h
  rw [List.drop_eq_getElem_cons hk] at h
  injection h with h1 h2
  exact ⟨hk, by simp [List.getD, hk, h1], h2⟩
theorem skip_pre (a : List UInt8) (h : a ≠ []) : Lib.hasPrefix a [35] = skipB a := by
  cases a with
  | nil => exact absurd rfl h
  | cons c r =>
    simp only [Lib.hasPrefix, skipB, List.isPrefixOf, List.isEmpty_cons, Bool.false_or, List.head?_cons, Bool.and_true]
    rw [show (some c == some (35 : UInt8)) = (c == 35) from rfl, BEq.comm]
set_option maxHeartbeats 4000000 in
theorem words_c (l : List UInt8) (hl : l.length ≤ 20000) (w : World) (hm : MemW w) : Calls Tryz.prog 14 #[.string (bs6 l)] w (WPost .u32 42 (preW (Wdn.lns l) (Wdn.lns l).length) w) := by
  obtain ⟨i0, hi, hz0, hz1, hz2⟩ := info_parts info_u32
  have HM := Lib.hid hm
  have HLL := Lib.hid (show (Wdn.lns l).length ≤ 20001 from Nat.le_trans (Wdn.lns_len l) (by omega))
  obtain ⟨L, hL⟩ : ∃ L, L = Wdn.lns l := ⟨_, rfl⟩
  have HL := Lib.hid hL
  rw [← hL] at HLL ⊢
  clear hm hL
  go_enter Tryz.func14, Tryz.ntmps14
  go_wp2_with fail
  go_loopw [0, 5, 6] (fun s v i wr => ∃ (k : Nat) (t : List UInt8) (ws : List Int), k ≤ L.length ∧ t.length ≤ 20000 ∧ s = .string (bs6 t) ∧ i = .int .i64 ((k : Int) + 1) ∧ L.drop k = Wdn.lns t ∧ preW L k = .ok ws ∧ wr.ownsRow w.heap.size 42 1 v ws.length (ws.map (Value.int .u32)) ∧ Below w.heap.size w wr) (fun s _ _ _ => strSz s)
  case atStart => exact ⟨0, l, [], Nat.zero_le _, hl, rfl, rfl, HL.out, rfl, World.ownsRow_nil _ _ _ _, Below.refl _ _⟩
  case round =>
    obtain ⟨k, t, ws, hk, ht, rfl, rfl, hd, hp, hown, hb⟩ := hrel
    have hwz := hb.size
    have hwl := preW_len k hp
    have hll := HLL.out
    have HO := Lib.hid hown
    have HN := Lib.hid hb
    have HD := Lib.hid hd
    have HP := Lib.hid hp
    clear hown hb hd hp
    by_cases ht0 : t = []
    · have hkL : k = L.length := by
        have h1 := HD.out
        rw [ht0, Wdn.lns_nil] at h1
        have h2 := congrArg List.length h1
        rw [List.length_drop] at h2
        simp at h2
        omega
      subst ht0 hkL
      rw [show bs6 [] = (⟨#[]⟩ : ByteArray) from rfl]
      go_wp2_with fail
      go_ret3
      exact ⟨_, ws, 0, 0, rfl, by rw [HP.out]; rfl, HO.out, HN.out⟩
    · obtain ⟨hcut, hcl⟩ := Wdn.lns_cut ht0
      have q1 := bs6_empty t
      have q2 := bs6_nil t
      rw [decide_eq_false ht0] at q1 q2
      obtain ⟨hkl, hga, hdr⟩ := getD_drop (HD.out.trans hcut)
      have HGA := Lib.hid hga
      have HDR := Lib.hid hdr
      obtain ⟨m, hmx⟩ := (HM.out.low HN.out).m.max
      have HC := Lib.hid (Tryz.strings_Cut (bs6 t) ⟨#[10]⟩ m wr (by rw [bs6_size]; omega) hmx)
      rw [show (bs6 t).data.toList = t from rfl, show ((⟨#[10]⟩ : ByteArray)).data.toList = [10] from rfl] at HC
      have hbs := bs6_size t
      have HSZ := Lib.hid (show strSz (.string (bs6 (Lib.cut t [10]).2.1)) < strSz (.string (bs6 t)) by
        show (bs6 _).size < (bs6 t).size
        rw [bs6_size, bs6_size]; exact hcl)
      have hla : (Lib.cut t [10]).2.1.length ≤ 20000 := by omega
      have hlb : (Lib.cut t [10]).1.length ≤ 20000 := by
        have h1 := Wdn.lns_sizes t (Lib.cut t [10]).1 (by rw [hcut]; simp)
        omega
      clear hcut hcl ht0 hga hdr hmx hbs
      generalize (Lib.cut t [10]).1 = a at *
      generalize (Lib.cut t [10]).2.1 = r at *
      generalize (Lib.cut t [10]).2.2 = fd at *
      change Hid (Calls Tryz.prog 38 #[.string (bs6 t), .string ⟨#[10]⟩] wr fun e w' => e = .returned (.tuple #[.string (bs6 a), .string (bs6 r), .bool fd]) ∧ ∃ n, w' = wr.drewN n) at HC
      obtain ⟨ST, hST⟩ : ∃ ST, bs6 t = ST := ⟨_, rfl⟩
      rw [hST] at HC HSZ q1 q2 ⊢
      have ea := bs6_empty a
      have eb := bs6_nil a
      go_wp2_with fail
      refine HC.out.mono ?_
      rintro e w1 ⟨rfl, nd, rfl⟩
      have HBd := Lib.hid (drewN_below wr nd)
      have HN1 := Lib.hid (HN.out.trans (HBd.out.mono HN.out.size))
      have HO1 := Lib.hid (owns_low HO.out HBd.out)
      generalize wr.drewN nd = w1 at *
      have hw1 := HN1.out.size
      clear HC HBd q1 q2
      by_cases ha0 : a = []
      · have HNX := Lib.hid (preW_skip HP.out (by rw [HGA.out, ha0]; rfl))
        rw [decide_eq_true ha0] at ea eb
        clear ha0
        generalize bs6 a = SA at *
        go_wp2_with fail
        go_roundw
        case rel => exact ⟨k + 1, r, ws, by omega, hla, rfl, by go_num, HDR.out, HNX.out, HO1.out, HN1.out⟩
        case measure => exact HSZ.out
      · rw [decide_eq_false ha0] at ea eb
        have HSK := Lib.hid (skip_pre a ha0)
        have HHP := Lib.hid (fun W => (show Calls Tryz.prog 39 #[.string (bs6 a), .string ⟨#[35]⟩] W fun e w' => e = .returned (.bool (skipB a)) ∧ w' = W from HSK.out ▸ Tryz.strings_HasPrefix (bs6 a) ⟨#[35]⟩ W))
        have HPA := Lib.hid (fun W (h : MemW W) => (show Calls Tryz.prog 12 #[.string (bs6 a)] W fun e w' => e = .returned (retV (refE a)) ∧ Below W.heap.size W w' by
          rw [← show parseV (bs6 a) = retV (refE a) from parse_ref (bs6 a)]
          exact parse_c _ W (by rw [bs6_size]; omega) h.m.max h.m.ok h.m.errs))
        clear ha0
        generalize bs6 a = SA at *
        cases hsk : skipB a with
        | true =>
          have HNX := Lib.hid (preW_skip HP.out (by rw [HGA.out]; exact hsk))
          rw [hsk] at HHP
          clear hsk
          go_wp2_with fail
          refine (HHP.out _).mono ?_
          rintro e w2 ⟨rfl, rfl⟩
          go_wp2_with fail
          go_roundw
          case rel => exact ⟨k + 1, r, ws, by omega, hla, rfl, by go_num, HDR.out, HNX.out, HO1.out, HN1.out⟩
          case measure => exact HSZ.out
        | false =>
          rw [hsk] at HHP
          cases hre : refE a with
          | error er =>
            have HNX := Lib.hid (preW_bad HP.out (by rw [HGA.out]; exact hsk) (by rw [HGA.out]; exact hre))
            obtain ⟨z1, z2⟩ := refE_ne hre
            rw [hre, retV_er] at HPA
            clear hsk hre
            go_wp2_with fail
            refine (HHP.out _).mono ?_
            rintro e w2 ⟨rfl, rfl⟩
            go_wp2_with fail
            refine (HPA.out _ (HM.out.low HN1.out)).mono ?_
            rintro e w3 ⟨rfl, hb⟩
            have HB3 := Lib.hid (HN1.out.trans (hb.mono HN1.out.size))
            clear hb
            have HB4 := Lib.hid (below_setRow (HB3.out.alloc HB3.out.size (.cells zeroI 24)) HB3.out.size zeroI)
            go_upto_region 9 with (refine wpList_store_row rfl 24 _ _ rfl w3.heap.size zeroI rfl rfl 24 zeroI (CsAt.new w3 24 zeroI) info_ins rfl (by kernel_rfl) ?_)
            generalize (w3.alloc (.cells zeroI 24)).setRow w3.heap.size zeroI = w4 at *
            go_wp2_with fail
            go_ret3
            refine ⟨_, [], _, er, rfl, ?_, World.ownsRow_nil _ _ _ _, HB4.out⟩
            have h1 := preW_err HNX.out (L.length - (k + 1))
            rw [show k + 1 + (L.length - (k + 1)) = L.length by omega] at h1
            rw [h1]
            simp [resW]
          | ok x =>
            have HNX := Lib.hid (preW_add HP.out (by rw [HGA.out]; exact hsk) (by rw [HGA.out]; exact hre))
            have hck := refE_ok hre
            rw [hre, retV_ok] at HPA
            have HEN := Lib.hid (fun W (h : MemW W) => (show Calls Tryz.prog 40 #[.agg #[.int .i64 x.op, .int .i64 x.rd, .int .i64 x.rs1, .int .i64 x.rs2, .int .i64 x.imm, .int .i64 x.csr, .bool x.aq, .bool x.rl]] W fun e w' => e = .returned (.tuple #[.int .u32 (wrd x), .int .i64 0]) ∧ Below W.heap.size W w' from encode_yes x.op x.rd x.rs1 x.rs2 x.imm x.csr x.aq x.rl W h.v hck))
            clear hsk hre hck
            generalize wrd x = wx at *
            go_wp2_with fail
            refine (HHP.out _).mono ?_
            rintro e w2 ⟨rfl, rfl⟩
            go_wp2_with fail
            refine (HPA.out _ (HM.out.low HN1.out)).mono ?_
            rintro e w3 ⟨rfl, hb⟩
            have HB3 := Lib.hid (HN1.out.trans (hb.mono HN1.out.size))
            have HO3 := Lib.hid (owns_low HO1.out hb)
            clear hb
            have hbx := (Below.refl w3.heap.size w3).alloc (Nat.le_refl _) (.cells zeroI 24)
            have HB4 := Lib.hid (below_setRow (HB3.out.alloc HB3.out.size (.cells zeroI 24)) HB3.out.size (flA x))
            have HO4 := Lib.hid (owns_low HO3.out (below_setRow hbx (Nat.le_refl _) (flA x)))
            have HI4 := Lib.hid (CsAt.row (CsAt.new w3 24 zeroI) (flA x))
            clear hbx
            go_upto_region 9 with (refine wpList_store_row rfl 24 _ _ rfl w3.heap.size (flA x) rfl rfl 24 zeroI (CsAt.new w3 24 zeroI) info_ins rfl (by kernel_rfl) ?_)
            generalize (w3.alloc (.cells zeroI 24)).setRow w3.heap.size (flA x) = w4 at *
            generalize w3.heap.size = b3 at *
            obtain ⟨j0, j1, j2, j3, j4, j5, j6, j7⟩ := fl8_of HI4.out
            go_wp2_with fail
            refine (HEN.out _ (HM.out.low HB4.out)).mono ?_
            rintro e w5 ⟨rfl, hb⟩
            have HB5 := Lib.hid (HB4.out.trans (hb.mono HB4.out.size))
            have HO5 := Lib.hid (owns_low HO4.out hb)
            have hw5 := HB5.out.size
            clear hb j0 j1 j2 j3 j4 j5 j6 j7
            go_wp2_with (at_builtin; refine wpList_append_own _ rfl _ _ 35 rfl w.heap.size 42 i0 (.int .u32 0) 1 4 Tryz.underlying35 hi hz0 hz1 hz2 rfl (by decide) _ _ _ rfl (HO5.out.alloc _) ⟨w5.heap.size, 0, none⟩ 1 1 [.int .u32 wx] rfl rfl news_one (one_cell_k _ _) (by unfold maxLen; omega) (by omega) (by simp; omega) ?_; intro v' w6 hown' hgrow _)
            have R := Lib.hid (rel_k (x := wx) hw5 HO5.out hown' hgrow HB5.out)
            clear hown' hgrow
            go_wp2_with fail
            go_roundw
            case rel => exact ⟨k + 1, r, ws ++ [wx], by omega, hla, rfl, by go_num, HDR.out, HNX.out, R.out.1, R.out.2⟩
            case measure => exact HSZ.out
end Go.Proofs.YthehcplogkgkeaaGreatDoor
set_option maxRecDepth 4000
namespace Go.Proofs.YthehcplogkgkeaaGreatDoor
open Go.ChangeShapes Go.WideShapes Go.ChangeAt Go.RowKit Wd Num

theorem info_u64w : (Tryz.prog.info? 41).map (fun i => (i.zero, i.size, i.bytes)) = some (some (.int .u64 0), 1, 8) := by kernel_rfl
/-- The texts of a slice. -/
def StrsAt (W : World) (ao : Option Addr) (L : List (List UInt8)) : Prop := ∀ j, j < L.length → ∃ g, ao = some ⟨g, 0, none⟩ ∧ W.cell? ⟨g, j, none⟩ = some (.string (bs6 (L.getD j [])))
theorem StrsAt.low {W W' : World} {ao : Option Addr} {L : List (List UInt8)} (h : StrsAt W ao L) (hb : Below W.heap.size W W') : StrsAt W' ao L := fun j hj => by
  obtain ⟨g, e, hc⟩ := h j hj
  exact ⟨g, e, (hb.cell (p := ⟨g, j, none⟩) (lt_cell hc)).trans hc⟩
theorem strs_open {base : Nat} {w : World} {v : Value} {L : List (List UInt8)} (h : w.ownsRow base 9 1 v L.length (L.map sB)) : ∃ ao cap, v = .slice ao L.length cap ∧ StrsAt w ao L := by
  have h0 := h
  obtain ⟨hx, ⟨hv, hn⟩ | ⟨g, cap, cur, rfl, hg, hc, hle, hm, hs, ht⟩⟩ := h
  · refine ⟨none, 0, by rw [hv, hn], fun j hj => absurd hj (by omega)⟩
  · refine ⟨some ⟨g, 0, none⟩, cap, rfl, fun j hj => ⟨g, rfl, ?_⟩⟩
    have := h0.cells (g := g) rfl j (.string (bs6 (L.getD j []))) (by simp [sB, List.getD, hj])
    rw [show (⟨g, 0, none⟩ : Addr).add j = ⟨g, j, none⟩ by cases j <;> simp [Addr.add]] at this
    exact this
theorem head35 (a : List UInt8) (B : ByteArray) (hB : bs6 a = B) (h : 0 < B.size) : (((B[0].toNat : Nat) : Int) == 35) = skipB a := by
  subst hB
  cases a with
  | nil => exact absurd h (by decide)
  | cons c r =>
    show (((c.toNat : Nat) : Int) == 35) = ((c :: r).isEmpty || some c == some 35)
    simp only [List.isEmpty_cons, Bool.false_or]
    rw [Bool.eq_iff_iff]
    simp
    constructor
    · intro h
      apply UInt8.toNat_inj.1
      show c.toNat = 35
      omega
    · intro h
      subst h
      rfl
theorem owns_mono {b1 b2 n : Nat} {T : TypeId} {v : Value} {xs : List Value} {w : World} (h : w.ownsRow b1 T 1 v n xs) (hb : b2 ≤ b1) : w.ownsRow b2 T 1 v n xs := by
  refine ⟨h.1, ?_⟩
  rcases h.2 with h5 | ⟨g, cap, cur, e, f1, f2⟩
  · exact .inl h5
  · exact .inr ⟨g, cap, cur, e, Nat.le_trans hb f1, f2⟩
set_option maxHeartbeats 4000000 in
theorem refWords_c (l : List UInt8) (hl : l.length ≤ 3000) (w : World) : Calls Tryz.prog 15 #[.string (bs6 l)] w (WPost .u64 41 (preW (Wdn.lns l) (Wdn.lns l).length) w) := by
  obtain ⟨i0, hi, hz0, hz1, hz2⟩ := info_parts info_u64w
  have HLI := Lib.hid (refLines_c l hl w)
  have HLL := Lib.hid (show (Wdn.lns l).length ≤ 20001 from Nat.le_trans (Wdn.lns_len l) (by omega))
  have HLS := Lib.hid (show ∀ s ∈ Wdn.lns l, s.length ≤ 3000 from fun s hs => Nat.le_trans (Wdn.lns_sizes l s hs) hl)
  generalize Wdn.lns l = L at *
  generalize bs6 l = S at *
  clear hl
  go_enter Tryz.func15, Tryz.ntmps15
  go_wp2_with fail
  refine HLI.out.mono ?_
  rintro e w1 ⟨v, rfl, hown, hb1⟩
  obtain ⟨ao, cap, rfl, hst⟩ := strs_open hown
  have HST := Lib.hid hst
  have HB1 := Lib.hid hb1
  obtain ⟨n, hn⟩ : ∃ n, L.length = n := ⟨_, rfl⟩
  have HLN := Lib.hid hn
  have hnz : n ≤ 20001 := by have := HLL.out; omega
  rw [hn]
  clear hown hst hb1 hn HLI
  go_wp2_with fail
  go_loopw [6, 7] (fun v i wr => ∃ (k : Nat) (ws : List Int), k ≤ n ∧ i = .int .i64 k ∧ preW L k = .ok ws ∧ wr.ownsRow w1.heap.size 41 1 v ws.length (ws.map (Value.int .u64)) ∧ Below w1.heap.size w1 wr) (fun _ i _ => n - (intOf i).toNat)
  case atStart => exact ⟨0, [], Nat.zero_le _, rfl, rfl, World.ownsRow_nil _ _ _ _, Below.refl _ _⟩
  case round =>
    obtain ⟨k, ws, hk, rfl, hp, hown, hb⟩ := hrel
    have hwz := hb.size
    have hwl := preW_len k hp
    have HO := Lib.hid hown
    have HN := Lib.hid hb
    have HP := Lib.hid hp
    have HSr := Lib.hid (HST.out.low hb)
    have HNW := Lib.hid (HB1.out.trans (hb.mono HB1.out.size))
    clear hown hb hp
    by_cases hlt : k < n
    · have hkL : k < L.length := by rw [HLN.out]; exact hlt
      obtain ⟨g, rfl, hc⟩ := HSr.out k hkL
      have hlt2 : (k : Int) < (n : Int) := by omega
      have has := HLS.out (L.getD k []) (by simp [List.getD, hkL])
      obtain ⟨a, ha⟩ : ∃ a, L.getD k [] = a := ⟨_, rfl⟩
      rw [ha] at hc has
      have HGA := Lib.hid ha
      clear ha
      have ea := bs6_empty a
      have eb := bs6_nil a
      have HPA := Lib.hid (fun W => refParse_c a (by omega) W)
      by_cases ha0 : a = []
      · have HNX := Lib.hid (preW_skip HP.out (by rw [HGA.out, ha0]; rfl))
        rw [decide_eq_true ha0] at ea eb
        clear ha0
        generalize bs6 a = SA at *
        go_wp2_with fail
        go_roundw
        case rel => exact ⟨k + 1, ws, by omega, by go_num, HNX.out, HO.out, HN.out⟩
        case measure => simp [intOf]; omega
      · rw [decide_eq_false ha0] at ea eb
        have hp0 : 0 < (bs6 a).size := by rw [bs6_size]; exact List.length_pos_iff.2 ha0
        have h35 := head35 a (bs6 a) rfl hp0
        clear ha0
        generalize bs6 a = SA at *
        cases hsk : skipB a with
        | true =>
          have HNX := Lib.hid (preW_skip HP.out (by rw [HGA.out]; exact hsk))
          rw [hsk] at h35
          clear hsk
          go_wp2_with fail
          go_roundw
          case rel => exact ⟨k + 1, ws, by omega, by go_num, HNX.out, HO.out, HN.out⟩
          case measure => simp [intOf]; omega
        | false =>
          rw [hsk] at h35
          cases hre : refE a with
          | error er =>
            have HNX := Lib.hid (preW_bad HP.out (by rw [HGA.out]; exact hsk) (by rw [HGA.out]; exact hre))
            obtain ⟨z1, z2⟩ := refE_ne hre
            rw [hre, retV_er] at HPA
            clear hsk hre
            go_wp2_with fail
            refine (HPA.out _).mono ?_
            rintro e w3 ⟨rfl, hb⟩
            have HB3 := Lib.hid (HN.out.trans (hb.mono HN.out.size))
            clear hb
            have HB4 := Lib.hid (below_setRow (HB3.out.alloc HB3.out.size (.cells zeroI 24)) HB3.out.size zeroI)
            go_upto_region 8 with (refine wpList_store_row rfl 24 _ _ rfl w3.heap.size zeroI rfl rfl 24 zeroI (CsAt.new w3 24 zeroI) info_ins rfl (by kernel_rfl) ?_)
            generalize (w3.alloc (.cells zeroI 24)).setRow w3.heap.size zeroI = w4 at *
            go_wp2_with fail
            go_ret3
            refine ⟨_, [], _, er, rfl, ?_, World.ownsRow_nil _ _ _ _, HB1.out.trans (HB4.out.mono HB1.out.size)⟩
            have h1 := preW_err HNX.out (L.length - (k + 1))
            rw [show k + 1 + (L.length - (k + 1)) = L.length by omega] at h1
            rw [h1]
            simp [resW]
          | ok x =>
            have HNX := Lib.hid (preW_add HP.out (by rw [HGA.out]; exact hsk) (by rw [HGA.out]; exact hre))
            have hck := refE_ok hre
            rw [hre, retV_ok] at HPA
            have HEN := Lib.hid (fun W => (show Calls Tryz.prog 42 #[.agg #[.int .i64 x.op, .int .i64 x.rd, .int .i64 x.rs1, .int .i64 x.rs2, .int .i64 x.imm, .int .i64 x.csr, .bool x.aq, .bool x.rl]] W fun e w' => e = .returned (.tuple #[.int .u64 (wrd x), .int .i64 0]) ∧ Below W.heap.size W w' from refEncode_yes x.op x.rd x.rs1 x.rs2 x.imm x.csr x.aq x.rl W hck))
            clear hsk hre hck
            generalize wrd x = wx at *
            go_wp2_with fail
            refine (HPA.out _).mono ?_
            rintro e w3 ⟨rfl, hb⟩
            have HB3 := Lib.hid (HN.out.trans (hb.mono HN.out.size))
            have HO3 := Lib.hid (owns_low HO.out hb)
            clear hb
            have hbx := below_setRow ((Below.refl w3.heap.size w3).alloc (Nat.le_refl _) (.cells zeroI 24)) (Nat.le_refl _) (flA x)
            have HB4 := Lib.hid (below_setRow (HB3.out.alloc HB3.out.size (.cells zeroI 24)) HB3.out.size (flA x))
            have HO4 := Lib.hid (owns_low HO3.out hbx)
            have HI4 := Lib.hid (CsAt.row (CsAt.new w3 24 zeroI) (flA x))
            clear hbx
            go_upto_region 8 with (refine wpList_store_row rfl 24 _ _ rfl w3.heap.size (flA x) rfl rfl 24 zeroI (CsAt.new w3 24 zeroI) info_ins rfl (by kernel_rfl) ?_)
            generalize (w3.alloc (.cells zeroI 24)).setRow w3.heap.size (flA x) = w4 at *
            generalize w3.heap.size = b3 at *
            obtain ⟨j0, j1, j2, j3, j4, j5, j6, j7⟩ := fl8_of HI4.out
            go_wp2_with fail
            refine (HEN.out _).mono ?_
            rintro e w5 ⟨rfl, hb⟩
            have HB5 := Lib.hid (HB4.out.trans (hb.mono HB4.out.size))
            have HO5 := Lib.hid (owns_low HO4.out hb)
            have hw5 := HB5.out.size
            clear hb j0 j1 j2 j3 j4 j5 j6 j7
            go_wp2_with (at_builtin; refine wpList_append_own _ rfl _ _ 38 rfl w1.heap.size 41 i0 (.int .u64 0) 1 8 Tryz.underlying38 hi hz0 hz1 hz2 rfl (by decide) _ _ _ rfl (HO5.out.alloc _) ⟨w5.heap.size, 0, none⟩ 1 1 [.int .u64 wx] rfl rfl news_one (one_cell_k _ _) (by unfold maxLen; omega) (by omega) (by simp; omega) ?_; intro v' w6 hown' hgrow _)
            have R := Lib.hid (rel_k (x := wx) hw5 HO5.out hown' hgrow HB5.out)
            clear hown' hgrow
            go_wp2_with fail
            go_roundw
            case rel => exact ⟨k + 1, ws ++ [wx], by omega, by go_num, HNX.out, R.out.1, R.out.2⟩
            case measure => simp [intOf]; omega
    · obtain rfl : k = n := by omega
      go_wp2_with fail
      go_ret3
      exact ⟨_, ws, 0, 0, rfl, by rw [HLN.out, HP.out]; rfl, owns_mono HO.out HB1.out.size, HNW.out⟩
end Go.Proofs.YthehcplogkgkeaaGreatDoor
