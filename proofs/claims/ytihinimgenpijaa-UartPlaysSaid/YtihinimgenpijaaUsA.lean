/-
  The law of layer 17: its example; UartNone, UartKeeps walked.
-/
import Derived.Test.YtihinimgenpijaaUrA
import Derived.Test.YtihinimgenpijaaOpenN
set_option maxRecDepth 20000
namespace Go.Proofs.Ytihinimgenpijaa
open Go.ChangeShapes Go.WideShapes Go.ChangeAt Go.RowKit

/-- A port that was made since w. -/
structure PtW (w W : World) (b : Nat) (s : Ut.S) : Prop where
  ex : ∃ F, Pt F W b s ∧ ∀ k, F k → w.heap.size ≤ k
  bel : Below w.heap.size w W
section
variable {w W W' : World} {b : Nat} {s t : Ut.S}
theorem PtW.low (h : PtW w W b s) (hb : Below W.heap.size W W') : PtW w W' b s := by
  obtain ⟨⟨F, hp, hF⟩, hbel⟩ := h
  exact ⟨⟨F, hp.low hb, hF⟩, hbel.trans (hb.mono hbel.size)⟩
theorem PtW.step {F : Nat → Prop} (hF : ∀ k, F k → w.heap.size ≤ k) (hb : Below w.heap.size w W) (h : PtQ F W W' b t) : PtW w W' b t :=
  ⟨⟨_, h.pt, fun k hk => hk.elim (hF k) (fun h2 => Nat.le_trans hb.size h2.1)⟩, hb.trans (h.chg.below hb.size hF)⟩
theorem PtW.ok (h : PtW w W b s) : Ut.Ok s := by
  obtain ⟨⟨F, hp, hF⟩, hbel⟩ := h
  exact hp.ok
theorem wnew_c (w W : World) (hb : Below w.heap.size w W) : Calls Try.prog 9 #[] W fun e W' => ∃ b, e = .returned (.pointer (some ⟨b, 0, none⟩)) ∧ PtW w W' b Ut.zero ∧ Below W.heap.size W W' := by
  refine (unew_c W).mono ?_
  rintro e W' ⟨rfl, rfl⟩
  have hb2 : Below W.heap.size W (W.alloc (.cells (ptV Ut.zero (.slice none 0 0) (.slice none 0 0)) PoT)) := (Below.refl _ _).alloc (Nat.le_refl _) _
  exact ⟨_, rfl, ⟨⟨_, (PtS.new W).p, fun k hk => by subst hk; exact hb.size⟩, hb.trans (hb2.mono hb.size)⟩, hb2⟩
theorem wread_c (h : PtW w W b s) (off : Int) (h0 : 0 ≤ off) (h1 : off ≤ 18446744073709551615) :
    Calls Try.prog 16 #[.pointer (some ⟨b, 0, none⟩), .int .u64 off] W fun e W' => e = .returned (.tuple #[.int .u8 (Ut.readV s off), .bool (Ut.is off)]) ∧ PtW w W' b (Ut.readS s off) := by
  obtain ⟨⟨F, hp, hF⟩, hbel⟩ := h
  exact (uread_c off h0 h1 hp).mono fun e W' ⟨he, hq⟩ => ⟨he, PtW.step hF hbel hq⟩
theorem wwrite_c (h : PtW w W b s) (off x : Int) (h0 : 0 ≤ off) (h1 : off ≤ 18446744073709551615) (hx : Ut.isB x) (ho : s.out.length < 900) :
    Calls Try.prog 17 #[.pointer (some ⟨b, 0, none⟩), .int .u64 off, .int .u8 x] W fun e W' => e = .returned (.bool (Ut.is off)) ∧ PtW w W' b (Ut.writeS s off x) := by
  obtain ⟨⟨F, hp, hF⟩, hbel⟩ := h
  exact (uwrite_c off x h0 h1 hx ho hp).mono fun e W' ⟨he, hq⟩ => ⟨he, PtW.step hF hbel hq⟩
theorem winput_c (h : PtW w W b s) (x : Int) (hx : Ut.isB x) :
    Calls Try.prog 18 #[.pointer (some ⟨b, 0, none⟩), .int .u8 x] W fun e W' => e = .returned (.bool (Ut.inB s)) ∧ PtW w W' b (Ut.inS s x) := by
  obtain ⟨⟨F, hp, hF⟩, hbel⟩ := h
  exact (uinput_c hx hp).mono fun e W' ⟨he, hq⟩ => ⟨he, PtW.step hF hbel hq⟩
theorem wline_c (h : PtW w W b s) : Calls Try.prog 19 #[.pointer (some ⟨b, 0, none⟩)] W fun e W' => e = .returned (.bool (Ut.cause s != 1)) ∧ W' = W := by
  obtain ⟨⟨F, hp, hF⟩, hbel⟩ := h
  exact uline_c hp
theorem wwaiting_c (h : PtW w W b s) : Calls Try.prog 20 #[.pointer (some ⟨b, 0, none⟩)] W fun e W' => ∃ p cap, e = .returned (.slice p s.q.length cap) ∧ VwB W' (.slice p s.q.length cap) s.q ∧ PtW w W' b s := by
  have h1 := h
  obtain ⟨⟨F, hp, hF⟩, hbel⟩ := h
  refine (uwaiting_c hp).mono ?_
  rintro e W' ⟨v, rfl, ho, hb⟩
  have hv := own_vwB ho
  obtain ⟨p, cap, rfl, -⟩ := own_form ho
  exact ⟨p, cap, rfl, hv, h1.low hb⟩
theorem wout_c (h : PtW w W b s) (hn : s.out.length ≤ 900) : Calls Try.prog 21 #[.pointer (some ⟨b, 0, none⟩)] W fun e W' => ∃ p cap, e = .returned (.slice p s.out.length cap) ∧ VwB W' (.slice p s.out.length cap) s.out ∧ PtW w W' b s := by
  have h1 := h
  obtain ⟨⟨F, hp, hF⟩, hbel⟩ := h
  refine (uout_c hn hp).mono ?_
  rintro e W' ⟨v, rfl, ho, hb⟩
  have hv := own_vwB ho
  obtain ⟨p, cap, rfl, -⟩ := own_form ho
  exact ⟨p, cap, rfl, hv, h1.low hb⟩
end
namespace Ut
def l1 : S := inS zero 65
def l2 : S := readS l1 5
def l3 : S := readS l2 0
def l4 : S := writeS l3 1 2
def l5 : S := readS l4 2
theorem l_5 : readV l1 5 = 97 := by decide
theorem l_0 : readV l2 0 = 65 := by decide
theorem l_c4 : (cause l4 != 1) = true := by decide
theorem l_2 : readV l4 2 = 2 := by decide
theorem l_c5 : (cause l5 != 1) = false := by decide
theorem l_out : l3.out.length < 900 := by decide
theorem is_0 : is 0 = true := by decide
theorem is_1 : is 1 = true := by decide
theorem is_2 : is 2 = true := by decide
theorem is_5 : is 5 = true := by decide
end Ut
set_option maxHeartbeats 4000000 in
theorem live17_c (w : World) : Calls Try.prog 8 #[] w fun e w' => e = .returned (.bool true) ∧ Below w.heap.size w w' := by
  have HN := Lib.hid (wnew_c w w (Below.refl _ _))
  go_enter Try.func8, Try.ntmps8
  go_wp2_with fail
  refine HN.out.mono ?_
  rintro e w1 ⟨b, rfl, hp, -⟩
  have H1 := Lib.hid (winput_c hp 65 (by unfold Ut.isB; omega))
  clear hp HN
  go_wp2_with fail
  refine H1.out.mono ?_
  rintro e w2 ⟨rfl, hp⟩
  have H2 := Lib.hid (wread_c hp 5 (by omega) (by omega))
  rw [show Ut.readV (Ut.inS Ut.zero 65) 5 = 97 from Ut.l_5, Ut.is_5] at H2
  clear hp H1
  go_wp2_with fail
  refine H2.out.mono ?_
  rintro e w3 ⟨rfl, hp⟩
  have H3 := Lib.hid (wread_c hp 0 (by omega) (by omega))
  rw [show Ut.readV (Ut.readS (Ut.inS Ut.zero 65) 5) 0 = 65 from Ut.l_0, Ut.is_0] at H3
  clear hp H2
  go_wp2_with fail
  refine H3.out.mono ?_
  rintro e w4 ⟨rfl, hp⟩
  have H4 := Lib.hid (wwrite_c hp 1 2 (by omega) (by omega) (by unfold Ut.isB; omega) Ut.l_out)
  clear hp H3
  go_wp2_with fail
  refine H4.out.mono ?_
  rintro e w5 ⟨rfl, hp⟩
  have hp5 : PtW w w5 b Ut.l4 := hp
  have H5 := Lib.hid (wline_c hp5)
  have H6 := Lib.hid (wread_c hp5 2 (by omega) (by omega))
  rw [Ut.l_c4] at H5
  rw [Ut.l_2, Ut.is_2] at H6
  clear hp hp5 H4
  go_wp2_with fail
  refine H5.out.mono ?_
  rintro e w6 ⟨rfl, rfl⟩
  go_wp2_with fail
  refine H6.out.mono ?_
  rintro e w7 ⟨rfl, hp⟩
  have hp7 : PtW w w7 b Ut.l5 := hp
  have HB := Lib.hid hp7.bel
  have H7 := Lib.hid (wline_c hp7)
  rw [Ut.l_c5] at H7
  clear hp hp7 H6 H5
  go_wp2_with fail
  refine H7.out.mono ?_
  rintro e w8 ⟨rfl, rfl⟩
  go_wp2_with fail
  go_ret
  exact ⟨rfl, HB.out⟩
set_option maxHeartbeats 4000000 in
theorem unone_walk (w : World) (off x : Int) (_h0 : 0 ≤ off ∧ off ≤ 18446744073709551615) (_h1 : 0 ≤ x ∧ x ≤ 255) :
    Calls Try.prog 4 #[.int .u64 off, .int .u8 x] w fun e w' => e = .returned (.bool true) ∧ Below w.heap.size w w' := by
  go_enter Try.func4, Try.ntmps4

  go_wp2_with fail
  refine (nread_c off _).mono ?_
  rintro e w1 ⟨rfl, rfl⟩
  go_wp2_with fail
  refine (nwrite_c off x _).mono ?_
  rintro e w1 ⟨rfl, rfl⟩
  go_wp2_with fail
  refine (ninput_c x _).mono ?_
  rintro e w1 ⟨rfl, rfl⟩
  go_wp2_with fail
  refine (nline_c _).mono ?_
  rintro e w1 ⟨rfl, rfl⟩
  go_wp2_with fail
  refine (nwaiting_c _).mono ?_
  rintro e w1 ⟨rfl, rfl⟩
  go_wp2_with fail
  refine (nout_c _).mono ?_
  rintro e w1 ⟨rfl, rfl⟩
  go_wp2_with fail
  refine (nclone_c _).mono ?_
  rintro e w1 ⟨rfl, rfl⟩
  go_wp2_with fail
  refine (nsame_c _).mono ?_
  rintro e w1 ⟨rfl, rfl⟩
  have HB0 := Lib.hid (Below.refl w1.heap.size w1)
  go_wp2_with fail
  refine (wnew_c w1 w1 HB0.out).mono ?_
  rintro e w2 ⟨b, rfl, -, hb2⟩
  have HB2 := Lib.hid hb2
  clear hb2
  go_wp2_with fail
  refine (nsame1_c _ _).mono ?_
  rintro e w3 ⟨rfl, rfl⟩
  go_wp2_with fail
  refine (wnew_c w1 w3 HB2.out).mono ?_
  rintro e w4 ⟨b2, rfl, hp4, -⟩
  have HB4 := Lib.hid hp4.bel
  clear hp4
  go_wp2_with fail
  refine (nsame2_c _ _).mono ?_
  rintro e w5 ⟨rfl, rfl⟩
  go_wp2_with fail
  refine (live17_c _).mono ?_
  rintro e w6 ⟨rfl, hb6⟩
  have HB6 := Lib.hid (HB4.out.trans (hb6.mono HB4.out.size))
  clear hb6
  go_wp2_with fail
  go_ret
  exact ⟨rfl, HB6.out⟩
theorem open_u8s {H : Type} {enc : TypeId × Value → H} {w : World} {r : Reach} {b0 base : Nat} {spare : Nat → Bool} {held : Bool} {v : Value} {d : DataW H} {ps : List MemPlace}
    (hval : Value.okWide Try.prog w r b0 U8S v) (hd : DataW.Trod enc Try.prog w base spare held U8S v d ps) : ∃ p n cap l, v = .slice p n cap ∧ Nums .u8 w p n l :=
  open_nums Try.underlying30 Try.underlying5 (by kernel_rfl) hval hd
theorem Nums.byte {w : World} {p : Option Addr} {n : Nat} {l : List Int} (h : Nums .u8 w p n l) (k : Nat) (hk : k < n) : Ut.isB (l.getD k 0) := by
  have hl := h.len
  have hm : l.getD k 0 ∈ l := by
    rw [List.getD, List.getElem?_eq_getElem (by omega)]
    exact List.getElem_mem _
  have := bounds_u8 (h.each _ hm)
  exact ⟨this.1, by omega⟩
theorem Nums.at_ {w : World} {p : Option Addr} {n : Nat} {l : List Int} (h : Nums .u8 w p n l) (hn : 0 < n) : ∃ b off, p = some ⟨b, off, none⟩ ∧ b < w.heap.size ∧ ∀ k, k < n → w.cell? ⟨b, off + k, none⟩ = some (.int .u8 (l.getD k 0)) := by
  have hl := h.len
  rcases h.vw with h0 | ⟨b, off, rfl, hlt, hc⟩
  · have := congrArg List.length h0
    rw [List.length_map] at this
    simp only [List.length_nil] at this
    omega
  · exact ⟨b, off, rfl, hlt, fun k hk => hc k _ (u8V_at l k (by omega))⟩
namespace Ut
/-- Behind k bytes that came in; what went out. -/
def sK (l : List Int) (k : Nat) (o : List Int) (e : Bool) : S := { zero with fifo := true, lost := decide (16 < k), empty := e, q := l.take (min k 16), out := o }
theorem sK_0 (l : List Int) : writeS zero 2 1 = sK l 0 [] false := rfl
theorem sK_in (l : List Int) (k : Nat) (hk : k < l.length) : inS (sK l k [] false) (l.getD k 0) = sK l (k + 1) [] false ∧ inB (sK l k [] false) = decide ((k : Int) < 16) := by
  have e1 : lp (sK l k [] false) = false := rfl
  have e2 : room (sK l k [] false) = 16 := rfl
  have hlen : (sK l k [] false).q.length = min k 16 := by simp [sK]; omega
  constructor
  · unfold inS
    rw [if_neg (by rw [e1]; simp)]
    unfold comeS
    rw [e2, hlen]
    by_cases h : 16 ≤ k
    · rw [if_pos (by omega)]
      unfold sK
      simp only [show min k 16 = 16 by omega, show min (k + 1) 16 = 16 by omega, show decide (16 < k + 1) = true by simp; omega]
    · rw [if_neg (by omega)]
      unfold sK
      simp only [show min k 16 = k by omega, show min (k + 1) 16 = k + 1 by omega, show decide (16 < k + 1) = false by simp; omega, show decide (16 < k) = false by simp; omega]
      rw [List.take_succ_eq_append_getElem hk, List.getD, List.getElem?_eq_getElem hk]
      rfl
  · unfold inB comeB
    rw [e1, e2, hlen]
    simp
    omega
theorem sK_out (l : List Int) (n : Nat) (o : List Int) (e : Bool) (x : Int) : writeS (sK l n o e) 0 x = sK l n (o ++ [x]) true := rfl
theorem sK_5 (l : List Int) (n : Nat) (o : List Int) (e : Bool) : (Go.bits .and .u8 (readV (sK l n o e) 5) 2 == 2) = decide ((n : Int) > 16) := by
  have e1 : readV (sK l n o e) 5 = 96 + (if (sK l n o e).q ≠ [] then 1 else 0) + (if decide (16 < n) = true then 2 else 0) := rfl
  rw [e1]
  by_cases h : 16 < n
  · have g : decide (16 < n) = true := by simpa using h
    rw [if_pos g, show decide ((n : Int) > 16) = true by simp; omega]
    split <;> decide
  · have g : ¬ decide (16 < n) = true := by simpa using h
    rw [if_neg g, show decide ((n : Int) > 16) = false by simp; omega]
    split <;> decide
/-- Behind i of them that were read. -/
def sR (l : List Int) (i : Nat) (o : List Int) (e : Bool) : S := { zero with fifo := true, lost := false, empty := e, q := (l.take 16).drop i, out := o }
theorem sR_0 (l : List Int) (o : List Int) (e : Bool) : readS (sK l l.length o e) 5 = sR l 0 o e := by
  unfold readS sK sR
  simp
  omega
theorem sR_read (l : List Int) (i : Nat) (h16 : i < 16) (o : List Int) (e : Bool) : readV (sR l i o e) 0 = l.getD i 0 ∧ readS (sR l i o e) 0 = sR l (i + 1) o e := by
  constructor
  · rw [read0_v, if_neg (by rw [show Ut.hi (sR l i o e) = false from rfl]; simp)]
    unfold sR
    simp only [List.getD, List.getElem?_drop, List.getElem?_take, Nat.add_zero, if_pos h16]
  · rw [read0_s, if_neg (by rw [show Ut.hi (sR l i o e) = false from rfl]; simp)]
    unfold sR
    simp only [List.drop_drop]
theorem sR_end (l : List Int) (i : Nat) (hi : ¬ (i < l.length ∧ i < 16)) (o : List Int) (e : Bool) : (sR l i o e).q = [] := by
  unfold sR
  simp only [List.drop_eq_nil_iff, List.length_take]
  omega
end Ut


set_option maxHeartbeats 8000000 in
theorem ukeeps_walk (w : World) (pi : Option Addr) (n ci : Nat) (l : List Int) (po : Option Addr) (m co : Nat) (r : List Int) (hl : Nums .u8 w pi n l) (hr : Nums .u8 w po m r) :
    Calls Try.prog 5 #[.slice pi n ci, .slice po m co] w fun e w' => e = .returned (.bool true) ∧ Below w.heap.size w w' := by
  have HL := Lib.hid hl
  have HR := Lib.hid hr
  have hln := hl.len
  have hrn := hr.len
  have hmx := hl.max
  have hmy := hr.max
  clear hl hr
  by_cases hbig : 60 < n ∨ 60 < m
  · have HLV := Lib.hid (live17_c w)
    by_cases h1 : 60 < n
    · have g0 : decide ((n : Int) > 60) = true := by simp; omega
      clear hbig
      go_enter Try.func5, Try.ntmps5
      go_wp2_with fail
      refine HLV.out.mono ?_
      rintro e w1 ⟨rfl, hb1⟩
      have HB := Lib.hid hb1
      clear hb1
      go_wp2_with fail
      go_ret
      exact ⟨rfl, HB.out⟩
    · have g0 : decide ((n : Int) > 60) = false := by simp; omega
      have g1 : decide ((m : Int) > 60) = true := by simp; omega
      clear hbig h1
      go_enter Try.func5, Try.ntmps5
      go_wp2_with fail
      refine HLV.out.mono ?_
      rintro e w1 ⟨rfl, hb1⟩
      have HB := Lib.hid hb1
      clear hb1
      go_wp2_with fail
      go_ret
      exact ⟨rfl, HB.out⟩
  · have g0 : decide ((n : Int) > 60) = false := by simp; omega
    have g1 : decide ((m : Int) > 60) = false := by simp; omega
    have hn60 : n ≤ 60 := by omega
    have hm60 : m ≤ 60 := by omega
    clear hbig
    have HN := Lib.hid (wnew_c w w (Below.refl _ _))
    go_enter Try.func5, Try.ntmps5
    go_wp2_with fail
    refine HN.out.mono ?_
    rintro e w1 ⟨b, rfl, hp, -⟩
    have H1 := Lib.hid (wwrite_c hp 2 1 (by omega) (by omega) (by unfold Ut.isB; omega) (by decide))
    rw [Ut.sK_0 l] at H1
    clear hp HN
    go_wp2_with fail
    refine H1.out.mono ?_
    rintro e w2 ⟨rfl, hp⟩
    have HP := Lib.hid hp
    clear hp H1
    go_wp2_with fail
    go_loopw [6] (fun i wr => ∃ k : Nat, k ≤ n ∧ i = .int .i64 k ∧ PtW w wr b (Ut.sK l k [] false)) (fun i _ => n - (intOf i).toNat)
    case atStart => exact ⟨0, Nat.zero_le _, rfl, HP.out⟩
    case round =>
      obtain ⟨k, hk, rfl, hp⟩ := hrel
      have HQ := Lib.hid hp
      clear hp HP
      by_cases hlt : k < n
      · have e0 : decide ((k : Int) < (n : Int)) = true := by simp; omega
        obtain ⟨db, off, rfl, hdl, hc⟩ := HL.out.at_ (by omega)
        have ck := (HQ.out.bel.cell (p := ⟨db, off + k, none⟩) hdl).trans (hc k hlt)
        have hby := HL.out.byte k hlt
        have hin := Ut.sK_in l k (by omega)
        have HI := Lib.hid (winput_c HQ.out (l.getD k 0) hby)
        rw [hin.1, hin.2] at HI
        clear hc hby hin
        generalize l.getD k 0 = x at *
        have gk : (k : Int) < (n : Int) := by omega
        go_wp2_with fail
        refine HI.out.mono ?_
        rintro e w3 ⟨rfl, hp3⟩
        have HP3 := Lib.hid hp3
        clear hp3 HI
        obtain ⟨d, hd⟩ : ∃ d, decide ((k : Int) < 16) = d := ⟨_, rfl⟩
        have gd : (d == d) = true := by simp
        go_wp2_with fail
        go_roundw
        case rel => exact ⟨k + 1, by omega, by go_num, HP3.out⟩
        case measure => simp [intOf]; omega
      · have e0 : decide ((k : Int) < (n : Int)) = false := by simp; omega
        obtain rfl : k = n := by omega
        have HP0 := Lib.hid (show PtW w wr b (Ut.sK l k [] false) from HQ.out)
        clear HQ
        go_wp2_with fail
        go_loopw [7] (fun i wr => ∃ (j : Nat) (ee : Bool), j ≤ m ∧ i = .int .i64 j ∧ PtW w wr b (Ut.sK l k (r.take j) ee)) (fun i _ => m - (intOf i).toNat)
        case atStart => exact ⟨0, false, Nat.zero_le _, rfl, HP0.out⟩
        case round =>
          obtain ⟨j, ee, hj, rfl, hp⟩ := hrel
          have HQ := Lib.hid hp
          clear hp HP0
          by_cases hlt2 : j < m
          · have e1 : decide ((j : Int) < (m : Int)) = true := by simp; omega
            obtain ⟨db, off, rfl, hdl, hc⟩ := HR.out.at_ (by omega)
            have ck := (HQ.out.bel.cell (p := ⟨db, off + j, none⟩) hdl).trans (hc j hlt2)
            have hby := HR.out.byte j hlt2
            have hol : (Ut.sK l k (r.take j) ee).out.length < 900 := by simp [Ut.sK]; omega
            have HI := Lib.hid (wwrite_c HQ.out 0 (r.getD j 0) (by omega) (by omega) hby hol)
            rw [Ut.sK_out, show r.take j ++ [r.getD j 0] = r.take (j + 1) by rw [List.take_succ_eq_append_getElem (by omega), List.getD, List.getElem?_eq_getElem (by omega)]; rfl] at HI
            clear hc hby hol
            generalize r.getD j 0 = x at *
            have gk : (j : Int) < (m : Int) := by omega
            go_wp2_with fail
            refine HI.out.mono ?_
            rintro e w3 ⟨rfl, hp3⟩
            have HP3 := Lib.hid hp3
            clear hp3 HI
            go_wp2_with fail
            go_roundw
            case rel => exact ⟨j + 1, true, by omega, by go_num, HP3.out⟩
            case measure => simp [intOf]; omega
          · have e1 : decide ((j : Int) < (m : Int)) = false := by simp; omega
            obtain rfl : j = m := by omega
            have hrt : r.take j = r := List.take_of_length_le (by omega)
            rw [hrt] at HQ
            have H5 := Lib.hid (wread_c HQ.out 5 (by omega) (by omega))
            have h5 := Ut.sK_5 l k r ee
            rw [Ut.is_5, show Ut.readS (Ut.sK l k r ee) 5 = Ut.sR l 0 r ee by rw [← hln]; exact Ut.sR_0 l r ee] at H5
            clear hrt HQ
            generalize Ut.readV (Ut.sK l k r ee) 5 = v5 at *
            go_wp2_with fail
            refine H5.out.mono ?_
            rintro e w3 ⟨rfl, hp3⟩
            have HP3 := Lib.hid hp3
            clear hp3 H5
            obtain ⟨d, hd⟩ : ∃ d, decide ((k : Int) > 16) = d := ⟨_, rfl⟩
            rw [hd] at h5
            have gd : (d != d) = false := by simp
            go_wp2_with fail
            clear h5 hd gd
            go_loopw [10] (fun i wr => ∃ i' : Nat, i' ≤ k ∧ i' ≤ 16 ∧ i = .int .i64 i' ∧ PtW w wr b (Ut.sR l i' r ee)) (fun i _ => k - (intOf i).toNat)
            case atStart => exact ⟨0, Nat.zero_le _, Nat.zero_le _, rfl, HP3.out⟩
            case round =>
              obtain ⟨i, hi, hi16, rfl, hp⟩ := hrel
              have HQ := Lib.hid hp
              clear hp HP3
              by_cases hlt3 : i < k ∧ i < 16
              · have e2 : decide ((i : Int) < (k : Int)) = true := by simp; omega
                have e3 : decide ((i : Int) < 16) = true := by simp; omega
                obtain ⟨db, off, rfl, hdl, hc⟩ := HL.out.at_ (by omega)
                have hrd := Ut.sR_read l i hlt3.2 r ee
                have HI := Lib.hid (wread_c HQ.out 0 (by omega) (by omega))
                rw [hrd.1, hrd.2, Ut.is_0] at HI
                have HCK := Lib.hid (fun (W : World) (hb : Below w.heap.size w W) => (hb.cell (p := ⟨db, off + i, none⟩) hdl).trans (hc i hlt3.1))
                clear hc hrd
                generalize l.getD i 0 = x at *
                have gk : (i : Int) < (k : Int) := by omega
                have gx : (x != x) = false := by simp
                have hik := hlt3.1
                have hi15 := hlt3.2
                clear hlt3
                go_wp2_with fail
                refine HI.out.mono ?_
                rintro e w4 ⟨rfl, hp4⟩
                have ck := HCK.out w4 hp4.bel
                have HP4 := Lib.hid hp4
                clear hp4 HI HCK
                go_wp2_with fail
                go_roundw
                case rel => exact ⟨i + 1, by omega, by omega, by go_num, HP4.out⟩
                case measure => simp [intOf]; omega
              · have hq0 := Ut.sR_end l i (by rw [hln]; exact hlt3) r ee
                have HW := Lib.hid (wwaiting_c HQ.out)
                rw [hq0] at HW
                have HLV := Lib.hid live17_c
                have HEQ := Lib.hid (fun (u : Value) (W : World) (hu : VwB W u r) (hb : Below w.heap.size w W) => rbytes_c u (.slice po j co) r r W hu (by
                  have hv := (HR.out.low hb).vw
                  refine ⟨po, co, by rw [hrn], ?_⟩
                  rcases hv with h0 | ⟨b', off', rfl, h1, h2⟩
                  · left
                    have := congrArg List.length h0
                    rw [List.length_map] at this
                    exact List.length_eq_zero_iff.1 this
                  · exact .inr ⟨b', off', rfl, h1, fun q hq => h2 q _ (u8V_at r q hq)⟩) (by omega))
                rw [show eqB r r = true by unfold eqB; simp] at HEQ
                have HOU := Lib.hid (fun W (h : PtW w W b (Ut.sR l i r ee)) => wout_c h (by show r.length ≤ 900; omega))
                clear HQ hq0
                have fin : ∀ (w3 : World), True := fun _ => trivial
                by_cases hi2 : i < k
                · have e2 : decide ((i : Int) < (k : Int)) = true := by simp; omega
                  have e3 : decide ((i : Int) < 16) = false := by simp; omega
                  clear hlt3 fin
                  go_wp2_with fail
                  refine HW.out.mono ?_
                  rintro e w4 ⟨p4, c4, rfl, -, hp4⟩
                  have HO4 := Lib.hid (HOU.out w4 hp4)
                  clear hp4 HW HOU
                  simp only [List.length_nil]
                  go_wp2_with fail
                  refine HO4.out.mono ?_
                  rintro e w5 ⟨p5, c5, rfl, hv5, hp5⟩
                  have HE5 := Lib.hid (HEQ.out _ w5 hv5 hp5.bel)
                  have HB5 := Lib.hid hp5.bel
                  clear hv5 hp5 HO4 HEQ
                  go_wp2_with fail
                  refine HE5.out.mono ?_
                  rintro e w6 ⟨rfl, hb6⟩
                  have HB6 := Lib.hid (HB5.out.trans (hb6.mono HB5.out.size))
                  clear hb6 HE5
                  go_wp2_with fail
                  refine (HLV.out w6).mono ?_
                  rintro e w7 ⟨rfl, hb7⟩
                  have HB7 := Lib.hid (HB6.out.trans (hb7.mono HB6.out.size))
                  clear hb7
                  go_wp2_with fail
                  go_ret
                  exact ⟨rfl, HB7.out⟩
                · have e2 : decide ((i : Int) < (k : Int)) = false := by simp; omega
                  clear hlt3 fin
                  go_wp2_with fail
                  refine HW.out.mono ?_
                  rintro e w4 ⟨p4, c4, rfl, -, hp4⟩
                  have HO4 := Lib.hid (HOU.out w4 hp4)
                  clear hp4 HW HOU
                  simp only [List.length_nil]
                  go_wp2_with fail
                  refine HO4.out.mono ?_
                  rintro e w5 ⟨p5, c5, rfl, hv5, hp5⟩
                  have HE5 := Lib.hid (HEQ.out _ w5 hv5 hp5.bel)
                  have HB5 := Lib.hid hp5.bel
                  clear hv5 hp5 HO4 HEQ
                  go_wp2_with fail
                  refine HE5.out.mono ?_
                  rintro e w6 ⟨rfl, hb6⟩
                  have HB6 := Lib.hid (HB5.out.trans (hb6.mono HB5.out.size))
                  clear hb6 HE5
                  go_wp2_with fail
                  refine (HLV.out w6).mono ?_
                  rintro e w7 ⟨rfl, hb7⟩
                  have HB7 := Lib.hid (HB6.out.trans (hb7.mono HB6.out.size))
                  clear hb7
                  go_wp2_with fail
                  go_ret
                  exact ⟨rfl, HB7.out⟩
end Go.Proofs.Ytihinimgenpijaa
