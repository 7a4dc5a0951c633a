/-
  First words of lines (layer 6): which op and order a word names, told over lists; that no word is two ops'; without the program's run. The contract of the reference's Split (layer 6). The contract of the reference's first (layer 6): the op and order of a line's first word.
-/
import Derived.Test.YthehcplogkgkeaaGreatDoorQu
import Derived.Test.YthehcplogkgkeaaGreatDoorQv
import Derived.Test.YthehcplogkgkeaaGreatDoorQn
import Derived.Test.YthehcplogkgkeaaGreatDoorQc
import Derived.Test.YthehcplogkgkeaaGreatDoorQm
set_option maxRecDepth 4000
namespace Go.Proofs.YthehcplogkgkeaaGreatDoor
open Go.ChangeShapes Go.WideShapes Go.ChangeAt Go.RowKit Wd Num

def nmIdx (t : List UInt8) : Nat := ((told 98).find? (fun k => Tab.nmL k == t)).getD 0
theorem findN_idx (t : List UInt8) : findN ⟨t.toArray⟩ = nmIdx t := by
  unfold findN nmIdx
  congr 2
  funext k
  unfold isNm bsOf
  rw [ByteArray.toList_eq, ByteArray.toList_eq]
def ordOk (n k : Nat) : Bool := k == 0 || (((fmtN (n : Nat) : Nat) : Int) == 11 || ((fmtN (n : Nat) : Nat) : Int) == 12)
def idxK (l : List UInt8) (k : Nat) : Nat := nmIdx (Lib.trimSuffix l (sufL k))
def hitL (l : List UInt8) (k : Nat) : Bool := Lib.hasSuffix l (sufL k) && (idxK l k != 0) && ordOk (idxK l k) k
def nameL (l : List UInt8) : Option (Nat × Nat) :=
  if hitL l 0 then some (idxK l 0, 0) else if hitL l 1 then some (idxK l 1, 1) else if hitL l 2 then some (idxK l 2, 2) else if hitL l 3 then some (idxK l 3, 3) else none
theorem cutN_L (s : ByteArray) (k : Nat) : cutN s k = idxK s.data.toList k := findN_idx _
theorem hitK_L (s : ByteArray) (k : Nat) : hitK s k = hitL s.data.toList k := by
  unfold hitK hitL ordOk
  rw [cutN_L]
theorem nameF_L (s : ByteArray) : nameF s = (nameL s.data.toList).map fun p => opF p.1 p.2 := by
  unfold nameF nameL
  simp only [hitK_L, cutN_L]
  repeat' split
  all_goals rfl
/-- No word is two ops': what an op with an order is written as names just these. -/
theorem nameL_own : ∀ n : Fin 98, ∀ k : Fin 4, ordOk (n.val + 1) k.val = true → nameL (Tab.nmL (n.val + 1) ++ sufL k.val) = some (n.val + 1, k.val) := by decide +kernel
theorem idx_name {t : List UInt8} (h : nmIdx t ≠ 0) : nmIdx t ≤ 98 ∧ Tab.nmL (nmIdx t) = t := by
  unfold nmIdx at h ⊢
  cases hf : (told 98).find? (fun k => Tab.nmL k == t) with
  | none => rw [hf] at h; exact absurd rfl h
  | some n =>
    have h1 := List.find?_some hf
    have h2 := List.mem_of_find?_eq_some hf
    have hl : ∀ n ∈ told 98, n ≤ 98 := by decide +kernel
    exact ⟨hl n h2, by simpa using h1⟩
theorem suffix_back {l p : List UInt8} (h : Lib.hasSuffix l p = true) : Lib.trimSuffix l p ++ p = l := by
  unfold Lib.trimSuffix
  rw [if_pos h]
  obtain ⟨t, rfl⟩ := List.isSuffixOf_iff_suffix.1 h
  simp
theorem nameL_some {l : List UInt8} {n k : Nat} (h : nameL l = some (n, k)) : 1 ≤ n ∧ n ≤ 98 ∧ k < 4 ∧ ordOk n k = true ∧ Tab.nmL n ++ sufL k = l := by
  have key : ∀ j, hitL l j = true → 1 ≤ idxK l j ∧ idxK l j ≤ 98 ∧ ordOk (idxK l j) j = true ∧ Tab.nmL (idxK l j) ++ sufL j = l := by
    intro j hj
    unfold hitL at hj
    simp only [Bool.and_eq_true] at hj
    obtain ⟨⟨a, b⟩, c⟩ := hj
    have b' : idxK l j ≠ 0 := by simpa using b
    have e := idx_name (t := Lib.trimSuffix l (sufL j)) b'
    refine ⟨by omega, e.1, c, ?_⟩
    have := suffix_back a
    rw [← e.2] at this
    exact this
  unfold nameL at h
  split at h
  · cases h; obtain ⟨a, b, c, d⟩ := key 0 (by assumption); exact ⟨a, b, by decide, c, d⟩
  split at h
  · cases h; obtain ⟨a, b, c, d⟩ := key 1 (by assumption); exact ⟨a, b, by decide, c, d⟩
  split at h
  · cases h; obtain ⟨a, b, c, d⟩ := key 2 (by assumption); exact ⟨a, b, by decide, c, d⟩
  split at h
  · cases h; obtain ⟨a, b, c, d⟩ := key 3 (by assumption); exact ⟨a, b, by decide, c, d⟩
  · cases h
theorem ord_class : ∀ n : Fin 98, (((fmtN ((n.val + 1 : Nat) : Int) : Nat) : Int) == 11 || ((fmtN ((n.val + 1 : Nat) : Int) : Nat) : Int) == 12) = (classS ((n.val + 1 : Nat) : Int) == 7) := by decide +kernel
end Go.Proofs.YthehcplogkgkeaaGreatDoor
set_option maxRecDepth 4000
namespace Go.Proofs.YthehcplogkgkeaaGreatDoor
open Go.ChangeShapes Go.WideShapes Go.ChangeAt Go.RowKit Wd Num Wds

/-- A word as a value. -/
def sB (l : List UInt8) : Value := .string (bs6 l)
def SplPost (w : World) (L : List (List UInt8)) (e : Ending) (w' : World) : Prop :=
  ∃ v, e = .returned v ∧ w'.ownsRow w.heap.size 9 1 v L.length (L.map sB) ∧ Below w.heap.size w w'
theorem info_str6 : (Tryz.prog.info? 9).map (fun i => (i.zero, i.size, i.bytes)) = some (some (.string ⟨#[]⟩), 1, 16) := by kernel_rfl
theorem rel_sB {base : Nat} {w wr w1 : World} {v v' : Value} {l : List (List UInt8)} {o : Obj} {x : List UInt8} (hb : base ≤ wr.heap.size)
    (hown : wr.ownsRow base 9 1 v l.length (l.map sB)) (hown' : w1.ownsRow base 9 1 v' (l.length + 1) (l.map sB ++ [sB x])) (hgrow : (wr.alloc o).grownBy w1 v.ownBlock) (hnx : Below base w wr) :
    w1.ownsRow base 9 1 v' (l ++ [x]).length ((l ++ [x]).map sB) ∧ Below base w w1 := by
  refine ⟨by rw [List.length_append, List.map_append]; exact hown', (hnx.alloc hb o).grown hgrow (by simp; omega) (fun j hj => (hown.lt j hj).1)⟩
theorem one_cell_s (x : ByteArray) : ∀ u ∈ [Value.string x], u.oneCell' = true := by
  intro u hu; simp at hu; subst hu; rfl
theorem bs6_snoc (l : List UInt8) (c : UInt8) : bs6 l ++ bs6 [c] = bs6 (l ++ [c]) := by
  apply ByteArray.ext; simp [bs6, ByteArray.data_append]
theorem ext_one (l : List UInt8) (k : Nat) (h : k < l.length) : (bs6 l).extract k (k + 1) = bs6 [l[k]] := by
  apply ByteArray.ext
  apply Array.ext'
  rw [Lib.extract_data, show (bs6 l).data.toList = l from rfl, show (bs6 [l[k]]).data.toList = [l[k]] from rfl]
  rw [List.drop_eq_getElem_cons h, show k + 1 - k = 1 by omega]
  rfl
theorem split_lens {l : List UInt8} {k : Nat} {d : List (List UInt8)} {c : List UInt8} (h : splF (l.take k) = d ++ [c]) : d.length ≤ l.length ∧ c.length ≤ l.length := by
  have h1 := splF_len (l.take k)
  have h2 := splF_sizes (l.take k) c (by rw [h]; simp)
  rw [h, List.length_append] at h1
  simp at h1 h2
  omega
theorem str_slice (B C : ByteArray) (k : Nat) (h : k < B.size) (hc : B.extract k (k + 1) = C) (W0 : World) : (Instr.slice 9 (.string B) (some (.int .i64 (k : Int))) (some (.int .i64 ((k : Int) + 1))) none).run Tryz.prog W0 = .ok (.string C) W0 := by
  rw [Rg.slice_lh W0 _ B Tryz.underlying9 _ _ (by omega) (by omega) (by omega), show ((k : Int)).toNat = k by omega, show ((k : Int) + 1).toNat = k + 1 by omega, hc]
set_option maxHeartbeats 2000000 in
theorem refSplit_c (l : List UInt8) (hl : l.length ≤ 300) (w : World) : Calls Tryz.prog 35 #[.string (bs6 l)] w (SplPost w (splF l)) := by
  obtain ⟨i0, hi, hz0, hz1, hz2⟩ := info_parts info_str6
  obtain ⟨B, hB⟩ : ∃ B, bs6 l = B := ⟨_, rfl⟩
  have hsz : B.size ≤ 300 := by rw [← hB, bs6_size]; exact hl
  have HB := Lib.hid hB
  have HBS := Lib.hid (show B.size = l.length by rw [← hB, bs6_size])
  rw [hB]
  clear hB hl
  go_enter Tryz.func35, Tryz.ntmps35
  go_wp2_with fail
  go_loopw [3, 4, 5] (fun v s i wr => ∃ (k : Nat) (d : List (List UInt8)) (c : List UInt8), k ≤ B.size ∧ i = .int .i64 k ∧ splF (l.take k) = d ++ [c] ∧ s = .string (bs6 c) ∧ wr.ownsRow w.heap.size 9 1 v d.length (d.map sB) ∧ Below w.heap.size w wr) (fun _ _ i _ => B.size - (intOf i).toNat)
  case atStart => exact ⟨0, [], [], Nat.zero_le _, rfl, rfl, rfl, World.ownsRow_nil _ _ _ _, Below.refl _ _⟩
  case round =>
    obtain ⟨k, d, c, hk, rfl, hd, rfl, hown, hnx⟩ := hrel
    have hwz := hnx.size
    have hdl : d.length ≤ 300 := by have := (split_lens hd).1; have := HBS.out; omega
    have HO := Lib.hid hown
    have HN := Lib.hid hnx
    have HD := Lib.hid hd
    clear hown hnx hd
    by_cases hlt : k < B.size
    · have hlt2 : k < l.length := by have := HBS.out; omega
      have HX := Lib.hid (Num.byte_at HB.out k hlt hlt2)
      by_cases hc : B[k] = 32
      · have e1 : (((B[k].toNat : Nat) : Int) == 32) = true := by rw [hc]; rfl
        have HS := Lib.hid (show splF (l.take (k + 1)) = (d ++ [c]) ++ [[]] by
          rw [List.take_succ_eq_append_getElem hlt2, ← HX.out, hc, splF_snoc_sp, HD.out])
        clear hc
        go_wp2_with (at_builtin; refine wpList_append_own _ rfl _ _ 58 rfl w.heap.size 9 i0 (.string ⟨#[]⟩) 1 16 Tryz.underlying58 hi hz0 hz1 hz2 rfl (by decide) _ _ _ rfl (HO.out.alloc _) ⟨wr.heap.size, 0, none⟩ 1 1 [.string (bs6 c)] rfl rfl news_one (one_cell_s _) (by unfold maxLen; omega) (by omega) (by simp; omega) ?_; intro v' w1 hown' hgrow _)
        have R := Lib.hid (rel_sB (x := c) hwz HO.out hown' hgrow HN.out)
        clear hown' hgrow
        go_wp2_with fail
        go_roundw
        case rel => exact ⟨k + 1, d ++ [c], [], by omega, by go_num, HS.out, rfl, R.out.1, R.out.2⟩
        case measure => simp [intOf]; omega
      · have e1 : (((B[k].toNat : Nat) : Int) == 32) = false := by
          rw [beq_eq_false_iff_ne]
          intro h
          apply hc
          apply UInt8.toNat_inj.1
          show B[k].toNat = 32
          omega
        have HS := Lib.hid (show splF (l.take (k + 1)) = d ++ [c ++ [l[k]]] by
          rw [List.take_succ_eq_append_getElem hlt2]
          exact splF_snoc_ns (by rw [← HX.out]; exact hc) _ _ _ HD.out)
        have hsl := str_slice B (bs6 [l[k]]) k hlt (by rw [← HB.out]; exact ext_one l k hlt2)
        have HA := Lib.hid (bs6_snoc c l[k])
        have g1 : (bs6 [l[k]]).size ≤ 1 := by rw [bs6_size]; simp
        have g2 : (bs6 c).size ≤ 300 := by rw [bs6_size]; have := (split_lens HD.out).2; have := HBS.out; omega
        clear hc
        generalize bs6 [l[k]] = C1 at *
        generalize bs6 c = CW at *
        go_wp2_with fail
        go_roundw
        case rel => exact ⟨k + 1, d, c ++ [l[k]], by omega, by go_num, HS.out, by rw [HA.out], HO.out, HN.out⟩
        case measure => simp [intOf]; omega
    · have HS := Lib.hid (show splF l = d ++ [c] by
        have h1 := HD.out
        rw [List.take_of_length_le (by have := HBS.out; omega)] at h1
        exact h1)
      go_wp2_with (at_builtin; refine wpList_append_own _ rfl _ _ 58 rfl w.heap.size 9 i0 (.string ⟨#[]⟩) 1 16 Tryz.underlying58 hi hz0 hz1 hz2 rfl (by decide) _ _ _ rfl (HO.out.alloc _) ⟨wr.heap.size, 0, none⟩ 1 1 [.string (bs6 c)] rfl rfl news_one (one_cell_s _) (by unfold maxLen; omega) (by omega) (by simp; omega) ?_; intro v' w1 hown' hgrow _)
      have R := Lib.hid (rel_sB (x := c) hwz HO.out hown' hgrow HN.out)
      clear hown' hgrow
      go_wp2_with fail
      go_ret
      exact ⟨_, rfl, by rw [HS.out]; exact R.out.1, R.out.2⟩
end Go.Proofs.YthehcplogkgkeaaGreatDoor
set_option maxRecDepth 4000
namespace Go.Proofs.YthehcplogkgkeaaGreatDoor
open Go.ChangeShapes Go.WideShapes Go.ChangeAt Go.RowKit Wd Num Wds

def firV (o : Option (Nat × Nat)) : Value :=
  match o with
  | some p => .tuple #[.agg (flA (opF p.1 p.2)), .bool true]
  | none => .tuple #[.agg zeroI, .bool false]
def tailB (k : Nat) : ByteArray := bs6 (sufL k)
def tailsC : Array Value := #[.string ⟨#[]⟩, .string ⟨#[46, 97, 113]⟩, .string ⟨#[46, 114, 108]⟩, .string ⟨#[46, 97, 113, 114, 108]⟩]
theorem tails_cell (w : World) (t : TypeId) (k : Nat) (hk : k < 4) : (w.alloc (.cells tailsC t)).cell? ⟨w.heap.size, k, none⟩ = some (.string (tailB k)) := by
  have : k = 0 ∨ k = 1 ∨ k = 2 ∨ k = 3 := by omega
  rcases this with rfl | rfl | rfl | rfl <;> simp [go_sem, tailsC, tailB, sufL, bs6]
/-- Is a word an op's name and an order? -/
def isAt (l : List UInt8) (n k : Nat) : Prop := ordOk n k = true ∧ Tab.nmL n ++ sufL k = l
theorem nameL_at {l : List UInt8} {n k : Nat} (h1 : 1 ≤ n) (h2 : n ≤ 98) (hk : k < 4) (h : isAt l n k) : nameL l = some (n, k) := by
  obtain ⟨n, rfl⟩ : ∃ m, n = m + 1 := ⟨n - 1, by omega⟩
  rw [← h.2]
  exact nameL_own ⟨n, by omega⟩ ⟨k, hk⟩ h.1
theorem nameL_no {l : List UInt8} (h : ∀ n k, 1 ≤ n → n ≤ 98 → k < 4 → ¬ isAt l n k) : nameL l = none := by
  cases hn : nameL l with
  | none => rfl
  | some p =>
    obtain ⟨a, b, c, d, e⟩ := nameL_some (n := p.1) (k := p.2) hn
    exact absurd ⟨d, e⟩ (h _ _ a b c)
theorem run_addS (a b c : ByteArray) (h : a.size + b.size ≤ 1000) (hc : a ++ b = c) (W : World) : (binOp .add 9 (.string a) (.string b)).run Tryz.prog W = .ok (.string c) W := by
  subst hc
  simp [go_sem]
  omega
theorem run_eqS (a b : ByteArray) (r : Bool) (h : (a.toList == b.toList) = r) (W : World) : (binOp .eql 9 (.string a) (.string b)).run Tryz.prog W = .ok (.bool r) W := by
  subst h
  simp [go_sem]
theorem results_first (tmps : Array Value) (w : World) (b : Nat) (cs : Array Value) (r : Bool) (h2 : tmps.getD 2 undef = .pointer (some ⟨b, 0, none⟩)) (h3 : tmps.getD 3 undef = .bool r) (hb : CsAt w b 24 cs) (hs : cs.size = 8) :
    (results Tryz.f36 tmps).run Tryz.prog w = .ok (.tuple #[.agg cs, .bool r]) w := by
  have h2' : tmps[2]?.getD undef = .pointer (some ⟨b, 0, none⟩) := by simpa using h2
  have h3' : tmps[3]?.getD undef = .bool r := by simpa using h3
  have hl := run_loadVar_row w b 24 24 cs (0, 0) _ hb Tryz.underlying24 rfl (hs ▸ info_ins)
  simp [results, Tryz.results36, h2', h3', asAddr, hl]
theorem nm_small : ∀ n : Fin 99, (Tab.nmL n.val).length ≤ 20 := by decide +kernel
theorem suf_small : ∀ k : Fin 4, (sufL k.val).length ≤ 5 := by decide +kernel
theorem bs6_app (a b : List UInt8) : bs6 a ++ bs6 b = bs6 (a ++ b) := by
  apply ByteArray.ext; simp [bs6, ByteArray.data_append]
set_option maxHeartbeats 8000000 in
theorem refFirst_c (l : List UInt8) (w : World) : Calls Tryz.prog 36 #[.string (bs6 l)] w fun e w' => e = .returned (firV (nameL l)) ∧ Below w.heap.size w w' := by
  obtain ⟨B, hB⟩ : ∃ B, bs6 l = B := ⟨_, rfl⟩
  have HB := Lib.hid hB
  rw [hB]
  clear hB
  have HI0 := Lib.hid (CsAt.new w 24 zeroI)
  have HB0 := Lib.hid ((Below.refl w.heap.size w).alloc (Nat.le_refl _) (.cells zeroI 24))
  have HZ0 := Lib.hid (show (w.alloc (.cells zeroI 24)).heap.size = w.heap.size + 1 by simp)
  go_enter Tryz.func36, Tryz.ntmps36
  go_wp2_with fail
  generalize (w.alloc (.cells zeroI 24)) = W0 at *
  refine (refNames4_c _).mono ?_
  rintro e w1 ⟨rfl, hw1⟩
  have HN1 := Lib.hid (show ∀ n, n < 99 → w1.cell? ⟨W0.heap.size, n, none⟩ = some (strV (Tab.nmL n)) from fun n hn => hw1 ▸ names4_cell W0 n hn)
  have HB1 := Lib.hid (show Below W0.heap.size W0 w1 from hw1 ▸ (Below.refl _ _).alloc (Nat.le_refl _) _)
  clear hw1
  rw [HZ0.out] at HN1
  rw [HZ0.out]
  have HT2 := Lib.hid (fun k hk => tails_cell w1 9 k hk)
  have HB2 := Lib.hid ((Below.refl w1.heap.size w1).alloc (Nat.le_refl _) (.cells tailsC 9))
  have HW2 := Lib.hid (show w1.alloc (.cells tailsC 9) = w1.alloc (.cells #[.string ⟨#[]⟩, .string ⟨#[46, 97, 113]⟩, .string ⟨#[46, 114, 108]⟩, .string ⟨#[46, 97, 113, 114, 108]⟩] 9) from rfl)
  go_upto_region 3 with fail
  rw [← HW2.out]
  clear HW2
  generalize w1.alloc (.cells tailsC 9) = W2 at *
  have HIN := Lib.hid (show CsAt W2 w.heap.size 24 zeroI from (HI0.out.low HB1.out).low HB2.out)
  have HNN := Lib.hid (show ∀ n, n < 99 → W2.cell? ⟨w.heap.size + 1, n, none⟩ = some (strV (Tab.nmL n)) from fun n hn => (HB2.out.cell (p := ⟨w.heap.size + 1, n, none⟩) (lt_cell (HN1.out n hn))).trans (HN1.out n hn))
  have HBB := Lib.hid (show Below w.heap.size w W2 from (HB0.out.trans (HB1.out.mono HB0.out.size)).trans (HB2.out.mono (HB0.out.trans (HB1.out.mono HB0.out.size)).size))
  clear HI0 HB0 HZ0 HN1 HB1 HB2
  generalize w1.heap.size = b2 at *
  go_wp2_with fail
  go_loopw [6] (fun i wr => ∃ n : Nat, 1 ≤ n ∧ n ≤ 99 ∧ i = .int .i64 n ∧ (∀ n' k', 1 ≤ n' → n' < n → k' < 4 → ¬ isAt l n' k') ∧ Below W2.heap.size W2 wr) (fun i _ => 99 - (intOf i).toNat)
  case atStart => exact ⟨1, by decide, by decide, rfl, fun n' k' h1 h2 => absurd h2 (by omega), Below.refl _ _⟩
  case round =>
    obtain ⟨n, hn1, hn2, rfl, hno, hbr⟩ := hrel
    have HNO := Lib.hid hno
    have HBR := Lib.hid hbr
    clear hno hbr
    by_cases hlt : n < 99
    · have hlt2 : (n : Int) < 99 := by omega
      go_wp2_with fail
      go_loopw [7] (fun i wr => ∃ k : Nat, k ≤ 4 ∧ i = .int .i64 k ∧ (∀ k', k' < k → ¬ isAt l n k') ∧ Below W2.heap.size W2 wr) (fun i _ => 4 - (intOf i).toNat)
      case atStart => exact ⟨0, by decide, rfl, fun k' h => absurd h (by omega), HBR.out⟩
      case round =>
        obtain ⟨k, hk, rfl, hno, hbr⟩ := hrel
        have HNK := Lib.hid hno
        have HBK := Lib.hid hbr
        clear hno hbr HBR
        rename_i wr2
        by_cases hk4 : k < 4
        · have hk42 : (k : Int) < 4 := by omega
          have hsz : (bs6 (Tab.nmL n)).size + (tailB k).size ≤ 1000 := by
            have h1 := nm_small ⟨n, hlt⟩
            have h2 := suf_small ⟨k, hk4⟩
            unfold tailB
            rw [bs6_size, bs6_size]
            simp only at h1 h2
            omega
          have HRA := Lib.hid (show bs6 (Tab.nmL n) ++ tailB k = bs6 (Tab.nmL n ++ sufL k) from bs6_app _ _)
          have hsz2 : ¬ 9223372036854775807 < (bs6 (Tab.nmL n)).size + (tailB k).size := by omega
          have HCN := Lib.hid (show ∀ W, Below W2.heap.size W2 W → W.cell? ⟨w.heap.size + 1, n, none⟩ = some (.string (bs6 (Tab.nmL n))) from fun W hb => (hb.cell (p := ⟨w.heap.size + 1, n, none⟩) (lt_cell (HNN.out n hlt))).trans (HNN.out n hlt))
          have HCT := Lib.hid (show ∀ W, Below W2.heap.size W2 W → W.cell? ⟨b2, k, none⟩ = some (.string (tailB k)) from fun W hb => (hb.cell (p := ⟨b2, k, none⟩) (lt_cell (HT2.out k hk4))).trans (HT2.out k hk4))
          obtain ⟨r, hr⟩ : ∃ r, ((bs6 (Tab.nmL n ++ sufL k)).toList == B.toList) = r := ⟨_, rfl⟩
          have HRE := Lib.hid hr
          have HRT := Lib.hid (show r = true ↔ Tab.nmL n ++ sufL k = l by rw [← hr, ← HB.out, bs6_beq]; simp)
          clear hr hsz
          generalize bs6 (Tab.nmL n ++ sufL k) = nt at *
          generalize bs6 (Tab.nmL n) = nb at *
          generalize tailB k = tb at *
          go_upto_region 9 with fail
          refine wp_region_steady (fun W => Below W2.heap.size W2 W) (by kernel_rfl) (by kernel_rfl) HBK.out.drew ?_
          iterate 12
            refine steady_val ?_ ?_ (by rfl) (fun W hS => ?_) ?_ ?_
            rotate_left 2
            · have c0 := HCN.out W hS
              have c1 := HCT.out W hS
              have c2 := HRA.out
              have c3 := HRE.out
              go_simp
              exact rfl
            · go_simp
              exact rfl
          by_cases hrt : r = true
          · subst hrt
            have HEQ := Lib.hid (HRT.out.1 rfl)
            by_cases hk0 : k = 0
            · subst hk0
              have HAT := Lib.hid (nameL_at hn1 (by omega) hk4 (show isAt l n 0 from ⟨rfl, HEQ.out⟩))
              iterate 3
                refine steady_val ?_ ?_ (by rfl) (fun W hS => ?_) ?_ ?_
                rotate_left 2
                · go_simp
                  exact rfl
                · go_simp
                  exact rfl
              iterate 3
                refine steady_skip (by kernel_rfl) ?_
              iterate 2
                refine steady_val ?_ ?_ (by rfl) (fun W hS => ?_) ?_ ?_
                rotate_left 2
                · go_simp
                  exact rfl
                · go_simp
                  exact rfl
              refine steady_nil ?_
              rintro W hS
              have HIW := Lib.hid (HIN.out.low hS)
              have HBW := Lib.hid (HBB.out.trans (hS.mono HBB.out.size))
              clear hS
              go_wp2_with (refine wpList_store_row rfl 24 _ _ rfl w.heap.size _ rfl rfl 24 _ HIW.out info_ins rfl (by simp [Value.oneCell']) ?_)
              refine bodyPost_ret (results_first _ _ w.heap.size _ true rfl rfl (CsAt.row HIW.out _) rfl) rfl ⟨?_, below_setRow HBW.out (Nat.le_refl _) _⟩
              rw [HAT.out]
              rfl
            · have HOC := Lib.hid (show ordOk n k = (classS (n : Int) == 7) by
                obtain ⟨m, rfl⟩ : ∃ m, n = m + 1 := ⟨n - 1, by omega⟩
                have := ord_class ⟨m, by omega⟩
                simp only at this
                unfold ordOk
                rw [this, beq_eq_false_iff_ne.2 hk0]
                rfl)
              have HCL := Lib.hid (fun W => refClass_c (n : Int) W)
              have e0 : ((k : Int) == 0) = false := by rw [beq_eq_false_iff_ne]; omega
              generalize classS (n : Int) = cl at *
              iterate 4
                refine steady_val ?_ ?_ (by rfl) (fun W hS => ?_) ?_ ?_
                rotate_left 2
                · go_simp
                  exact rfl
                · go_simp
                  exact rfl
              refine steady_enter (.int .i64 cl) _ _ ?_ (by rfl) (fun W hS => ?_) (fun W hS => (HCL.out W).mono fun e W' ⟨he, hb⟩ => ⟨he, hS.trans (hb.mono hS.size)⟩) ?_ ?_
              rotate_left 1
              · go_simp
              · go_simp
                exact rfl
              by_cases hcl : cl = 7
              · subst hcl
                have HAT := Lib.hid (nameL_at hn1 (by omega) hk4 (show isAt l n k from ⟨by rw [HOC.out]; rfl, HEQ.out⟩))
                iterate 3
                  refine steady_val ?_ ?_ (by rfl) (fun W hS => ?_) ?_ ?_
                  rotate_left 2
                  · go_simp
                    exact rfl
                  · go_simp
                    exact rfl
                obtain rfl | rfl | rfl : k = 1 ∨ k = 2 ∨ k = 3 := by omega
                all_goals
                  refine steady_nil ?_
                  rintro W hS
                  have HIW := Lib.hid (HIN.out.low hS)
                  have HBW := Lib.hid (HBB.out.trans (hS.mono HBB.out.size))
                  clear hS
                  go_wp2_with (refine wpList_store_row rfl 24 _ _ rfl w.heap.size _ rfl rfl 24 _ HIW.out info_ins rfl (by simp [Value.oneCell']) ?_)
                  refine bodyPost_ret (results_first _ _ w.heap.size _ true rfl rfl (CsAt.row HIW.out _) rfl) rfl ⟨?_, below_setRow HBW.out (Nat.le_refl _) _⟩
                  rw [HAT.out]
                  rfl
              · have HNA := Lib.hid (show ¬ isAt l n k from fun h => hcl (by have := h.1; rw [HOC.out] at this; simpa using this))
                have e7 : (cl == 7) = false := by rw [beq_eq_false_iff_ne]; exact hcl
                iterate 3
                  refine steady_val ?_ ?_ (by rfl) (fun W hS => ?_) ?_ ?_
                  rotate_left 2
                  · go_simp
                    exact rfl
                  · go_simp
                    exact rfl
                refine steady_nil ?_
                rintro W hS
                have HBW := Lib.hid hS
                clear hS
                go_wp2_with fail
                go_roundw
                case rel => exact ⟨k + 1, by omega, by go_num, fun k' hk' => (by rcases Nat.lt_succ_iff_lt_or_eq.1 hk' with h | rfl; exact HNK.out k' h; exact HNA.out), HBW.out⟩
                case measure => simp [intOf]; omega
          · have HNA := Lib.hid (show ¬ isAt l n k from fun h => hrt (HRT.out.2 h.2))
            obtain rfl : r = false := by simpa using hrt
            iterate 7
              refine steady_skip (by kernel_rfl) ?_
            iterate 1
              refine steady_val ?_ ?_ (by rfl) (fun W hS => ?_) ?_ ?_
              rotate_left 2
              · go_simp
                exact rfl
              · go_simp
                exact rfl
            refine steady_nil ?_
            rintro W hS
            have HBW := Lib.hid hS
            clear hS
            go_wp2_with fail
            go_roundw
            case rel => exact ⟨k + 1, by omega, by go_num, fun k' hk' => (by rcases Nat.lt_succ_iff_lt_or_eq.1 hk' with h | rfl; exact HNK.out k' h; exact HNA.out), HBW.out⟩
            case measure => simp [intOf]; omega
        · obtain rfl : k = 4 := by omega
          go_wp2_with fail
          go_roundw
          case rel => exact ⟨n + 1, by omega, by omega, by go_num, fun n' k' h1 h2 h3 => (by rcases Nat.lt_succ_iff_lt_or_eq.1 h2 with h | rfl; exact HNO.out n' k' h1 h h3; exact HNK.out k' h3), HBK.out⟩
          case measure => simp [intOf]; omega
    · obtain rfl : n = 99 := by omega
      have HAT := Lib.hid (nameL_no (l := l) (fun n k h1 h2 h3 => HNO.out n k h1 (by omega) h3))
      have HIW := Lib.hid (HIN.out.low HBR.out)
      have HBW := Lib.hid (HBB.out.trans (HBR.out.mono HBB.out.size))
      go_wp2_with (refine wpList_store_row rfl 24 _ _ rfl w.heap.size _ rfl rfl 24 _ HIW.out info_ins rfl (by simp [Value.oneCell']) ?_)
      refine bodyPost_ret (results_first _ _ w.heap.size _ false rfl rfl (CsAt.row HIW.out _) rfl) rfl ⟨?_, below_setRow HBW.out (Nat.le_refl _) _⟩
      rw [HAT.out]
      rfl
end Go.Proofs.YthehcplogkgkeaaGreatDoor
