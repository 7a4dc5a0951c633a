/-
  The reference of layer 16: At. The reference of layer 18: Where, New, May.
-/
import Derived.Test.YtkknfhbaldeigaaBrB
import Derived.Test.YtkknfhbaldeigaaBrY
import Derived.Test.YtkknfhbaldeigaaBuC
set_option maxRecDepth 20000
namespace Go.Proofs.Ytkknfhbaldeigaa
open Go.ChangeShapes Go.WideShapes Go.ChangeAt Go.RowKit

namespace Pc
/-- None of a context's registers below c stands there. -/
def rno (off : Int) (c : Nat) : Prop := ∀ j : Nat, j < c → off ≠ 8192 + 128 * (j : Int) ∧ off ≠ 2097152 + 4096 * (j : Int) ∧ off ≠ 2097156 + 4096 * (j : Int)
theorem rat1 {n off : Int} {k : Nat} (hn : 1 ≤ n ∧ n ≤ 8) (h1 : 1 ≤ k) (hk : k < 32) (h : off = 4 * (k : Int)) : at_ n off 4 = (1, k) := by
  have := at_hit (off := off) (k := 0) hn (by omega) (fun j hj => by omega) (by simp [hit]; omega)
  rw [this, of, if_pos rfl]
  rw [show (off / 4).toNat = k by omega]
theorem rat2 {n off : Int} (hn : 1 ≤ n ∧ n ≤ 8) (h : off = 4096) : at_ n off 4 = (2, 0) := by
  have := at_hit (off := off) (k := 1) hn (by omega) (fun j hj => by obtain rfl : j = 0 := by omega
                                                                     simp [hit]; omega) (by simp [hit]; omega)
  rw [this]; rfl
theorem rat3 {n off : Int} {c : Nat} (hn : 1 ≤ n ∧ n ≤ 8) (hc : (c : Int) < 2 * n) (h : off = 8192 + 128 * (c : Int)) : at_ n off 4 = (3, c) := by
  have := at_hit (off := off) (k := 2) hn (by omega) (fun j hj => by
    have : j = 0 ∨ j = 1 := by omega
    rcases this with rfl | rfl <;> (simp [hit]; omega)) (by simp [hit]; omega)
  rw [this, of, if_neg (by omega), if_neg (by omega), if_pos rfl, show ((off - 8192) / 128).toNat = c by omega]
theorem rat4 {n off : Int} {c : Nat} (hn : 1 ≤ n ∧ n ≤ 8) (hc : (c : Int) < 2 * n) (h : off = 2097152 + 4096 * (c : Int)) : at_ n off 4 = (4, c) := by
  have := at_hit (off := off) (k := 3) hn (by omega) (fun j hj => by
    have : j = 0 ∨ j = 1 ∨ j = 2 := by omega
    rcases this with rfl | rfl | rfl <;> (simp [hit]; omega)) (by simp [hit]; omega)
  rw [this, of, if_neg (by omega), if_neg (by omega), if_neg (by omega), if_pos rfl, show ((off - 2097152) / 4096).toNat = c by omega]
theorem rat5 {n off : Int} {c : Nat} (hn : 1 ≤ n ∧ n ≤ 8) (hc : (c : Int) < 2 * n) (h : off = 2097156 + 4096 * (c : Int)) : at_ n off 4 = (5, c) := by
  have := at_hit (off := off) (k := 4) hn (by omega) (fun j hj => by
    have : j = 0 ∨ j = 1 ∨ j = 2 ∨ j = 3 := by omega
    rcases this with rfl | rfl | rfl | rfl <;> (simp [hit]; omega)) (by simp [hit]; omega)
  rw [this, of, if_neg (by omega), if_neg (by omega), if_neg (by omega), if_neg (by omega), show ((off - 2097156) / 4096).toNat = c by omega]
theorem rat0 {n : Nat} {off : Int} (h1 : ∀ j : Nat, 1 ≤ j → j < 32 → off ≠ 4 * (j : Int)) (h2 : off ≠ 4096) (h3 : rno off (2 * n)) : at_ (n : Int) off 4 = (0, 0) := by
  refine at_miss fun j hj => ?_
  have : j = 0 ∨ j = 1 ∨ j = 2 ∨ j = 3 ∨ j = 4 := by omega
  rcases this with rfl | rfl | rfl | rfl | rfl
  all_goals simp [hit]
  · intro a b
    have := h1 (off / 4).toNat
    omega
  · exact h2
  · intro a b
    have := h3 ((off - 8192) / 128).toNat
    omega
  · intro a b
    have := h3 ((off - 2097152) / 4096).toNat
    omega
  · intro a b
    have := h3 ((off - 2097156) / 4096).toNat
    omega
end Pc
def atV (t : Nat × Nat) : Value := .tuple #[.int .i64 t.1, .int .i64 t.2]
set_option maxHeartbeats 16000000 in
theorem rat16_c (h off size : Int) (w : World) :
    Calls Try.prog 40 #[.int .i64 h, .int .u64 off, .int .i64 size] w fun e w' => e = .returned (atV (Pc.at_ h off size)) ∧ w' = w := by
  by_cases hbad : h < 1 ∨ 8 < h ∨ size ≠ 4
  · have HE := Lib.hid (Pc.at_bad (off := off) hbad)
    by_cases b1 : size = 4
    · have g1 : (size != 4) = false := by simpa using b1
      by_cases b2 : h < 1
      · have g2 : decide (h < 1) = true := by simpa using b2
        clear hbad b1 b2
        go_enter Try.func40, Try.ntmps40
        go_wp2_with fail
        go_ret2
        exact ⟨by rw [HE.out]; rfl, rfl⟩
      · have g2 : decide (h < 1) = false := by simpa using b2
        have g3 : decide (h > 8) = true := by simp; omega
        clear hbad b1 b2
        go_enter Try.func40, Try.ntmps40
        go_wp2_with fail
        go_ret2
        exact ⟨by rw [HE.out]; rfl, rfl⟩
    · have g1 : (size != 4) = true := by simpa using b1
      clear hbad b1
      go_enter Try.func40, Try.ntmps40
      go_wp2_with fail
      go_ret2
      exact ⟨by rw [HE.out]; rfl, rfl⟩
  · obtain ⟨n, rfl⟩ := Int.eq_ofNat_of_zero_le (by omega : 0 ≤ h)
    have hn : 1 ≤ (n : Int) ∧ (n : Int) ≤ 8 := by omega
    obtain rfl : size = 4 := by omega
    have g1 : decide ((n : Int) < 1) = false := by simp; omega
    have g2 : decide ((n : Int) > 8) = false := by simp; omega
    have g0 : ((4 : Int) != 4) = false := by rfl
    clear hbad
    go_enter Try.func40, Try.ntmps40
    go_wp2_with fail
    go_loopw [8] (fun i wr => ∃ k : Nat, 1 ≤ k ∧ k ≤ 32 ∧ i = .int .i64 k ∧ (∀ j : Nat, 1 ≤ j → j < k → off ≠ 4 * (j : Int)) ∧ wr = w) (fun i _ => 32 - (intOf i).toNat)
    case atStart => exact ⟨1, by omega, by omega, rfl, fun j h1 h2 => by omega, rfl⟩
    case round =>
      obtain ⟨k, hk1, hk, rfl, hno, hwr⟩ := hrel
      have HWR := Lib.hid hwr
      clear hwr
      have HNO := Lib.hid hno
      clear hno
      by_cases hlt : k < 32
      · have e1 : decide ((k : Int) < 32) = true := by simp; omega
        by_cases he : off = 4 * (k : Int)
        · have HE := Lib.hid (Pc.rat1 hn hk1 hlt he)
          have e2 : (off == 4 * (k : Int)) = true := by simpa using he
          clear he HNO
          go_wp2_with fail
          go_ret2
          exact ⟨by rw [HE.out]; rfl, HWR.out⟩
        · have e2 : (off == 4 * (k : Int)) = false := by simpa using he
          have HN2 := Lib.hid (show ∀ j : Nat, 1 ≤ j → j < k + 1 → off ≠ 4 * (j : Int) from fun j h1 h2 => by
            by_cases e : j = k
            · rw [e]; exact he
            · exact HNO.out j h1 (by omega))
          clear he HNO
          go_wp2_with fail
          go_roundw
          case rel => exact ⟨k + 1, by omega, by omega, by go_num, HN2.out, HWR.out⟩
          case measure => simp [intOf]; omega
      · obtain rfl : k = 32 := by omega
        by_cases h4 : off = 4096
        · have HE := Lib.hid (Pc.rat2 hn h4)
          have e2 : (off == 4096) = true := by simpa using h4
          clear h4 HNO
          go_wp2_with fail
          go_ret2
          exact ⟨by rw [HE.out]; rfl, HWR.out⟩
        · have e2 : (off == 4096) = false := by simpa using h4
          have H4 := Lib.hid h4
          clear h4
          go_wp2_with fail
          go_loopw [9] (fun i wr => ∃ c : Nat, c ≤ 2 * n ∧ i = .int .i64 c ∧ Pc.rno off c ∧ wr = w) (fun i _ => 2 * n - (intOf i).toNat)
          case atStart => exact ⟨0, by omega, rfl, fun j h2 => by omega, HWR.out⟩
          case round =>
            obtain ⟨c, hc, rfl, hno, hwr⟩ := hrel
            have HWR2 := Lib.hid hwr
            clear hwr
            have HC := Lib.hid hno
            clear hno
            have hc16 : (c : Int) ≤ 16 := by omega
            by_cases hlt2 : c < 2 * n
            · have e3 : decide ((c : Int) < 2 * (n : Int)) = true := by simp; omega
              by_cases he3 : off = 8192 + 128 * (c : Int)
              · have HE := Lib.hid (Pc.rat3 hn (by omega) he3)
                have e4 : (off == 8192 + 128 * (c : Int)) = true := by simpa using he3
                clear he3 HC H4 HNO
                go_wp2_with fail
                go_ret2
                exact ⟨by rw [HE.out]; rfl, HWR2.out⟩
              · have e4 : (off == 8192 + 128 * (c : Int)) = false := by simpa using he3
                by_cases he5 : off = 2097152 + 4096 * (c : Int)
                · have HE := Lib.hid (Pc.rat4 hn (by omega) he5)
                  have e5 : (off == 2097152 + 4096 * (c : Int)) = true := by simpa using he5
                  clear he3 he5 HC H4 HNO
                  go_wp2_with fail
                  go_ret2
                  exact ⟨by rw [HE.out]; rfl, HWR2.out⟩
                · have e5 : (off == 2097152 + 4096 * (c : Int)) = false := by simpa using he5
                  by_cases he6 : off = 2097156 + 4096 * (c : Int)
                  · have HE := Lib.hid (Pc.rat5 hn (by omega) he6)
                    have e6 : (off == 2097156 + 4096 * (c : Int)) = true := by simpa using he6
                    clear he3 he5 he6 HC H4 HNO
                    go_wp2_with fail
                    go_ret2
                    exact ⟨by rw [HE.out]; rfl, HWR2.out⟩
                  · have e6 : (off == 2097156 + 4096 * (c : Int)) = false := by simpa using he6
                    have HC2 := Lib.hid (show Pc.rno off (c + 1) from fun j hj => by
                      by_cases e : j = c
                      · rw [e]; exact ⟨he3, he5, he6⟩
                      · exact HC.out j (by omega))
                    clear he3 he5 he6 HC
                    go_wp2_with fail
                    go_roundw
                    case rel => exact ⟨c + 1, by omega, by go_num, HC2.out, HWR2.out⟩
                    case measure => simp [intOf]; omega
            · obtain rfl : c = 2 * n := by omega
              have e3 : decide (((2 * n : Nat) : Int) < 2 * (n : Int)) = false := by simp
              have HE := Lib.hid (Pc.rat0 HNO.out H4.out HC.out)
              clear HC H4 HNO
              go_wp2_with fail
              go_ret2
              exact ⟨by rw [HE.out]; rfl, HWR2.out⟩
abbrev BxT : TypeId := 64
abbrev UxT : TypeId := 62
/-- The reference's bus: harts, the clint, the controller, the port (eleven cells). -/
def xbV (n : Nat) (cs ps : Array Value) (us : Array Value) : Array Value := #[.int .i64 n] ++ cs ++ ps ++ us
abbrev uxZ : Array Value := #[.int .i64 0, .int .i64 0, .int .i64 0, .int .i64 0, .int .i64 0, .int .i64 0, .bool false, .bool false, .bool false, .slice none 0 0, .slice none 0 0]
def xb0 (n : Nat) : Array Value := xbV n (x15V n (Ct.newW n)) (x16V n Pc.zeros) uxZ
theorem foldl_seg : ∀ (l : List Value) (off i : Nat) (acc : Array Value), off + i + l.length ≤ acc.size → (l.zipIdx i).foldl (fun (cs : Array Value) (x : Value × Nat) => cs.setIfInBounds (off + x.2) x.1) acc = (acc.toList.take (off + i) ++ l ++ acc.toList.drop (off + i + l.length)).toArray
  | [], off, i, acc, _ => by simp
  | v :: l, off, i, acc, h => by
    have hi : off + i < acc.size := by simp at h; omega
    rw [List.zipIdx_cons, List.foldl_cons, foldl_seg l off (i + 1) _ (by simp at h ⊢; omega)]
    congr 1
    simp only [Array.toList_setIfInBounds]
    have e1 : (acc.toList.set (off + i) v).take (off + (i + 1)) = acc.toList.take (off + i) ++ [v] := by
      rw [show off + (i + 1) = off + i + 1 by omega, List.take_add_one, List.getElem?_set_self (by simpa using hi), List.take_set_of_le (by omega)]
      rfl
    have e2 : (acc.toList.set (off + i) v).drop (off + (i + 1) + l.length) = acc.toList.drop (off + i + (v :: l).length) := by
      rw [List.drop_set_of_lt (by omega), List.length_cons]
      congr 1; omega
    rw [e1, e2]
    simp
theorem fill_seg (place : Nat → Option (Nat × Nat)) (z cs : Array Value) (v : Value) (i off : Nat) (rest : List (Nat × Value)) (hv : v.cells = cs) (hp : place i = some (off, cs.size)) (hz : off + cs.size ≤ z.size) :
    Instr.fill place z ((i, v) :: rest) = Instr.fill place (z.toList.take off ++ cs.toList ++ z.toList.drop (off + cs.size)).toArray rest := by
  rw [Instr.fill, hp]
  simp only [hv]
  rw [if_neg (by simp; omega)]
  congr 1
  rw [← Array.foldl_toList, Array.toList_zipIdx]
  have := foldl_seg cs.toList off 0 z (by simpa using hz)
  simpa using this
theorem x15_size (n : Nat) (ws : List Int) (h : ws.length = 17) : (x15V n ws).size = 18 := by simp [x15V, h]
theorem x16_size' (n : Nat) (ws : List Int) : (x16V n ws).size = 657 := by simp [x16V]
theorem xbV_size (n : Nat) {cs ps us : Array Value} (h1 : cs.size = 18) (h2 : ps.size = 657) (h3 : us.size = 11) : (xbV n cs ps us).size = 687 := by simp [xbV, h1, h2, h3]
set_option maxRecDepth 1000000 in
theorem info_bx : (Try.prog.info? BxT).map (fun i => (i.zero, i.size)) = some (some (.agg (xbV 0 (x15V 0 (Ct.newW 0)) (x16V 0 Pc.zeros) uxZ)), 687) := by kernel_rfl
theorem places_bx : (match Try.prog.underlying BxT with | some (.struct fs) => fs.toList.mapM (fun f => (Try.prog.info? f.type).map fun i => (f.offset, i.size)) | _ => none) = some [(0, 1), (1, 18), (19, 657), (676, 11)] := by kernel_rfl
theorem ctnew_len {n : Nat} (h : n ≤ 8) : (Ct.newW n).length = 17 := by simp [Ct.newW]; omega
theorem fill_bx4 (n : Nat) (a b c p u : Array Value) (h1 : a.size = 18) (h2 : b.size = 657) (hc : c.size = 18) (hp : p.size = 657) (hu : u.size = 11) (place : Nat → Option (Nat × Nat)) (p0 : place 0 = some (0, 1)) (p1 : place 1 = some (1, 18)) (p2 : place 2 = some (19, 657)) :
    Instr.fill place (xbV 0 a b u) [(0, .int .i64 n), (1, .agg c), (2, .agg p)] = some (xbV n c p u) := by
  have hs := xbV_size 0 (us := u) h1 h2 hu
  rw [fill_seg place _ #[.int .i64 n] (.int .i64 n) 0 0 _ rfl p0 (by rw [hs]; show 0 + 1 ≤ 687; omega)]
  have e1 : (List.take 0 (xbV 0 a b u).toList ++ (#[Value.int .i64 n] : Array Value).toList ++ List.drop (0 + (#[Value.int .i64 n] : Array Value).size) (xbV 0 a b u).toList).toArray = xbV n a b u := by simp [xbV]
  rw [e1]
  have hs1 := xbV_size n (us := u) h1 h2 hu
  rw [fill_seg place _ c (.agg c) 1 1 _ rfl (by rw [hc]; exact p1) (by rw [hs1, hc]; omega)]
  have e2 : (List.take 1 (xbV n a b u).toList ++ c.toList ++ List.drop (1 + c.size) (xbV n a b u).toList).toArray = xbV n c b u := by
    have ha : a.toList.length = 18 := by simpa using h1
    have q : (xbV n a b u).toList = [Value.int .i64 n] ++ (a.toList ++ (b.toList ++ u.toList)) := by simp [xbV]
    have q2 : (xbV n c b u) = ([Value.int .i64 n] ++ (c.toList ++ (b.toList ++ u.toList))).toArray := by simp [xbV]
    rw [q, q2, hc]
    congr 1
    rw [List.take_left' (by rfl), ← List.append_assoc [Value.int .i64 n] a.toList, List.drop_left' (by simp [ha]), List.append_assoc]
  rw [e2]
  have hs2 := xbV_size n (us := u) hc h2 hu
  rw [fill_seg place _ p (.agg p) 2 19 _ rfl (by rw [hp]; exact p2) (by rw [hs2, hp]; omega)]
  have e3 : (List.take 19 (xbV n c b u).toList ++ p.toList ++ List.drop (19 + p.size) (xbV n c b u).toList).toArray = xbV n c p u := by
    have ha : c.toList.length = 18 := by simpa using hc
    have hb : b.toList.length = 657 := by simpa using h2
    have q : (xbV n c b u).toList = ([Value.int .i64 n] ++ c.toList) ++ (b.toList ++ u.toList) := by simp [xbV]
    have q2 : (xbV n c p u) = (([Value.int .i64 n] ++ c.toList) ++ (p.toList ++ u.toList)).toArray := by simp [xbV]
    rw [q, q2, hp]
    congr 1
    rw [List.take_left' (by simp [ha]), ← List.append_assoc ([Value.int .i64 n] ++ c.toList) b.toList, List.drop_left' (by simp [ha, hb]), List.append_assoc]
  rw [e3, Instr.fill]
theorem built_bx (n : Nat) (c p : Array Value) (hc : c.size = 18) (hp : p.size = 657) : Try.prog.built BxT [(0, .int .i64 n), (1, .agg c), (2, .agg p)] = some (xbV n c p uxZ) := by
  have h1 := info_bx
  have h2 := places_bx
  have hf := fill_bx4 n _ _ c p uxZ (x15_size 0 (Ct.newW 0) (ctnew_len (by omega))) (x16_size' 0 Pc.zeros) hc hp rfl (([(0, 1), (1, 18), (19, 657), (676, 11)] : List (Nat × Nat)).toArray[·]?) rfl rfl rfl
  generalize xbV 0 (x15V 0 (Ct.newW 0)) (x16V 0 Pc.zeros) uxZ = z at *
  unfold Program.built
  cases hi : Try.prog.info? BxT with
  | none => rw [hi] at h1; cases h1
  | some it =>
    rw [hi] at h1
    simp only [Option.map_some, Option.some.injEq, Prod.mk.injEq] at h1
    rw [Try.underlying64] at h2 ⊢
    simp only at h2 ⊢
    rw [h1.1, h2]
    exact hf
end Go.Proofs.Ytkknfhbaldeigaa
