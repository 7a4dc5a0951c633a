/-
  A text cut at its newlines, as lists of bytes (layer 6). A text's lines, as lists of bytes (layer 6): what strings.Cut takes off one by one; plain. Contracts of the reference's Lines and Listing (layer 6). What asm.Words and the reference's Words answer of a text's lines (layer 6); their contracts.
-/
import Derived.Lib.SplitLaws
import Derived.Lib.CutLaws
import Derived.Test.YthehcplogkgkeaaGreatDoorSd
import Derived.Test.YthehcplogkgkeaaGreatDoorQy
import Derived.Test.YthehcplogkgkeaaGreatDoorQz
import Derived.Test.YthehcplogkgkeaaGreatDoorSc
namespace Go.Proofs.Wdn
open Go.Lib

/-- The words of a line, told from its front. -/
def splF : List UInt8 → List (List UInt8)
  | [] => [[]]
  | c :: r => if c = 10 then [] :: splF r else
    match splF r with
    | [] => [[c]]
    | w :: ws => (c :: w) :: ws
theorem splF_ne : ∀ l, splF l ≠ []
  | [] => by simp [splF]
  | c :: r => by
    unfold splF
    split
    · simp
    · split <;> simp
theorem splF_sp (r : List UInt8) : splF (10 :: r) = [] :: splF r := by simp [splF]
theorem splF_ns {c : UInt8} {r w : List UInt8} {ws : List (List UInt8)} (h : c ≠ 10) (hr : splF r = w :: ws) : splF (c :: r) = (c :: w) :: ws := by
  rw [splF, if_neg h, hr]
theorem splF_snoc_sp : ∀ l : List UInt8, splF (l ++ [10]) = splF l ++ [[]]
  | [] => by simp [splF]
  | c :: r => by
    by_cases h : c = 10
    · subst h; rw [List.cons_append, splF_sp, splF_sp, splF_snoc_sp r]; rfl
    · obtain ⟨w, ws, hw⟩ : ∃ w ws, splF r = w :: ws := by
        cases hs : splF r with
        | nil => exact absurd hs (splF_ne r)
        | cons w ws => exact ⟨w, ws, rfl⟩
      rw [List.cons_append, splF_ns h hw, splF_ns (w := w) (ws := ws ++ [[]]) h (by rw [splF_snoc_sp r, hw]; rfl)]
      rfl
theorem splF_snoc_ns {c : UInt8} (hc : c ≠ 10) : ∀ (l : List UInt8) (d : List (List UInt8)) (w : List UInt8), splF l = d ++ [w] → splF (l ++ [c]) = d ++ [w ++ [c]]
  | [], d, w, h => by
    cases d with
    | nil => simp [splF] at h ⊢; subst h; simp [hc]
    | cons a d => simp [splF] at h
  | b :: r, d, w, h => by
    by_cases hb : b = 10
    · subst hb
      rw [splF_sp] at h
      cases d with
      | nil => simp at h; exact absurd h.2 (splF_ne r)
      | cons a d =>
        simp at h
        rw [List.cons_append, splF_sp, splF_snoc_ns hc r d w h.2]
        simp [h.1]
    · obtain ⟨u, us, hu⟩ : ∃ w ws, splF r = w :: ws := by
        cases hs : splF r with
        | nil => exact absurd hs (splF_ne r)
        | cons w ws => exact ⟨w, ws, rfl⟩
      rw [splF_ns hb hu] at h
      cases d with
      | nil =>
        simp at h
        obtain ⟨rfl, rfl⟩ := h
        have := splF_snoc_ns hc r [] u (by simpa using hu)
        rw [List.cons_append, splF_ns hb (by simpa using this)]
        rfl
      | cons a d =>
        simp at h
        obtain ⟨rfl, rfl⟩ := h
        have := splF_snoc_ns hc r (u :: d) w (by simpa using hu)
        rw [List.cons_append, splF_ns hb (by simpa using this)]
        rfl
theorem split_splF : ∀ l : List UInt8, split l [10] = splF l
  | [] => by rw [split, count_miss (by simp [index])]; rfl
  | b :: r => by
    have ih := split_splF r
    by_cases hb : b = 10
    · subst hb
      have hix : index (10 :: r) [10] = 0 := by rw [index]; simp [List.isPrefixOf]
      rw [split, count_cons_eq, Nat.add_comm, splitK, hix, splF_sp, ← ih, split]
      simp
    · have hp : ([10] : List UInt8).isPrefixOf (b :: r) = false := by simp [List.isPrefixOf, Ne.symm hb]
      have hix : index (b :: r) [10] = if index r [10] == -1 then -1 else index r [10] + 1 := by rw [index, hp]; simp
      rw [split, count_cons_ne b 10 r hb]
      by_cases hm : index r [10] = -1
      · rw [count_miss hm]
        rw [split, count_miss hm] at ih
        rw [splF_ns hb (w := r) (ws := []) (by rw [← ih]; rfl)]
        rfl
      · have hge := index_ge r [10]
        obtain ⟨j, hj⟩ : ∃ j : Nat, index r [10] = j := ⟨(index r [10]).toNat, by omega⟩
        have hix' : index (b :: r) [10] = ((j + 1 : Nat) : Int) := by rw [hix, if_neg (fun e => hm (beq_iff_eq.1 e)), hj]; omega
        rw [split, count_hit (by simp) hj, Nat.add_comm, splitK, hj, if_neg (by simp)] at ih
        rw [count_hit (by simp) hj, Nat.add_comm, splitK, hix', if_neg (by simp; omega)]
        rw [splF_ns hb ih.symm]
        simp
theorem splF_len : ∀ l : List UInt8, (splF l).length ≤ l.length + 1
  | [] => by simp [splF]
  | c :: r => by
    have ih := splF_len r
    by_cases h : c = 10
    · subst h; rw [splF_sp]; simp; omega
    · cases hs : splF r with
      | nil => exact absurd hs (splF_ne r)
      | cons w ws => rw [splF_ns h hs]; rw [hs] at ih; simp at ih ⊢; omega
theorem splF_sizes : ∀ l : List UInt8, ∀ w ∈ splF l, w.length ≤ l.length
  | [], w, h => by simp [splF] at h; subst h; simp
  | c :: r, w, h => by
    have ih := splF_sizes r
    by_cases hc : c = 10
    · subst hc
      rw [splF_sp] at h
      simp at h
      rcases h with rfl | h
      · simp
      · have := ih w h; simp; omega
    · cases hs : splF r with
      | nil => exact absurd hs (splF_ne r)
      | cons u us =>
        rw [splF_ns hc hs] at h
        rw [hs] at ih
        simp at h
        rcases h with rfl | h
        · have := ih u (by simp); simp; omega
        · have := ih w (by simp [h]); simp; omega
end Go.Proofs.Wdn
namespace Go.Proofs.Wdn
open Go.Lib

/-- A text's lines: what stands between newlines; behind the last one only if it isn't empty. -/
def lns (l : List UInt8) : List (List UInt8) := if (splF l).getLast? = some [] then (splF l).dropLast else splF l
theorem lns_nil : lns [] = [] := by simp [lns, splF]
theorem lns_of {l : List UInt8} {d : List (List UInt8)} {c : List UInt8} (h : splF l = d ++ [c]) : lns l = if c = [] then d else d ++ [c] := by
  unfold lns
  rw [h]
  by_cases hc : c = []
  · subst hc; simp
  · simp [hc]
theorem lns_cons {l a r : List UInt8} (h : splF l = a :: splF r) : lns l = a :: lns r := by
  obtain ⟨d, c, hd⟩ : ∃ d c, splF r = d ++ [c] := by
    have := splF_ne r
    exact ⟨(splF r).dropLast, (splF r).getLast this, (List.dropLast_concat_getLast this).symm⟩
  rw [lns_of hd, lns_of (d := a :: d) (c := c) (by rw [h, hd]; rfl)]
  split <;> rfl
theorem lns_cut {l : List UInt8} (h0 : l ≠ []) : lns l = (cut l [10]).1 :: lns (cut l [10]).2.1 ∧ (cut l [10]).2.1.length < l.length := by
  have hs := split_splF l
  have hge := index_ge l [10]
  by_cases hm : index l [10] = -1
  · have e : cut l [10] = (l, [], false) := by unfold cut; rw [hm, if_neg (by omega)]
    rw [split, count_miss hm] at hs
    have h1 : splF l = [] ++ [l] := by rw [← hs]; rfl
    rw [e, lns_of h1, if_neg h0, lns_nil]
    exact ⟨rfl, List.length_pos_iff.2 h0⟩
  · obtain ⟨j, hj⟩ : ∃ j : Nat, index l [10] = j := ⟨(index l [10]).toNat, by omega⟩
    have e : cut l [10] = (l.take j, l.drop (j + 1), true) := by
      unfold cut
      rw [hj, if_pos (by omega)]
      rfl
    have hroom := index_room l [10] (by omega)
    rw [hj] at hroom
    simp at hroom
    rw [split, count_hit (by simp) hj, Nat.add_comm, splitK, hj, if_neg (by simp)] at hs
    have h1 : splF l = l.take j :: splF (l.drop (j + 1)) := by
      rw [← hs, ← split_splF (l.drop (j + 1)), split]
      simp
    rw [e]
    refine ⟨lns_cons h1, ?_⟩
    simp only [List.length_drop]
    omega
theorem lns_len (l : List UInt8) : (lns l).length ≤ l.length + 1 := by
  have := splF_len l
  unfold lns
  split
  · simp; omega
  · exact this
theorem lns_sizes (l : List UInt8) : ∀ w ∈ lns l, w.length ≤ l.length := by
  intro w hw
  apply splF_sizes
  unfold lns at hw
  split at hw
  · exact List.dropLast_subset _ hw
  · exact hw
end Go.Proofs.Wdn
set_option maxRecDepth 4000
namespace Go.Proofs.YthehcplogkgkeaaGreatDoor
open Go.ChangeShapes Go.WideShapes Go.ChangeAt Go.RowKit Wd Num

theorem bs6_two (a b : List UInt8) : bs6 a ++ bs6 b = bs6 (a ++ b) := by
  apply ByteArray.ext; simp [bs6, ByteArray.data_append]
theorem ext_part (l : List UInt8) (a k : Nat) (_hk : k ≤ l.length) (_ha : a ≤ k) : (bs6 l).extract a k = bs6 ((l.take k).drop a) := by
  apply ByteArray.ext
  apply Array.ext'
  rw [Lib.extract_data, show (bs6 l).data.toList = l from rfl, show (bs6 ((l.take k).drop a)).data.toList = (l.take k).drop a from rfl, List.drop_take]
theorem str_cut (B C : ByteArray) (a k : Nat) (ha : a ≤ k) (hk : k ≤ B.size) (hc : B.extract a k = C) (W0 : World) : (Instr.slice 9 (.string B) (some (.int .i64 (a : Int))) (some (.int .i64 (k : Int))) none).run Tryz.prog W0 = .ok (.string C) W0 := by
  rw [Rg.slice_lh W0 _ B Tryz.underlying9 _ _ (by omega) (by omega) (by omega), show ((a : Int)).toNat = a by omega, show ((k : Int)).toNat = k by omega, hc]
theorem str_from (B C : ByteArray) (a : Nat) (ha : a ≤ B.size) (hc : B.extract a B.size = C) (W0 : World) : (Instr.slice 9 (.string B) (some (.int .i64 (a : Int))) none none).run Tryz.prog W0 = .ok (.string C) W0 := by
  subst hc
  simp [Instr.slice, run_underlying Tryz.underlying9, Instr.sliceBounds, run_sliceBound, ha]
set_option maxHeartbeats 2000000 in
theorem refLines_c (l : List UInt8) (hl : l.length ≤ 3000) (w : World) : Calls Tryz.prog 41 #[.string (bs6 l)] w (SplPost w (Wdn.lns l)) := by
  obtain ⟨i0, hi, hz0, hz1, hz2⟩ := info_parts info_str6
  obtain ⟨B, hB⟩ : ∃ B, bs6 l = B := ⟨_, rfl⟩
  have hsz : B.size ≤ 3000 := by rw [← hB, bs6_size]; exact hl
  have HB := Lib.hid hB
  have HBS := Lib.hid (show B.size = l.length by rw [← hB, bs6_size])
  rw [hB]
  clear hB hl
  go_enter Tryz.func41, Tryz.ntmps41
  go_wp2_with fail
  go_loopw [3, 4, 5] (fun v f i wr => ∃ (k F : Nat) (d : List (List UInt8)), k ≤ B.size ∧ F ≤ k ∧ i = .int .i64 k ∧ f = .int .i64 F ∧ Wdn.splF (l.take k) = d ++ [(l.take k).drop F] ∧ wr.ownsRow w.heap.size 9 1 v d.length (d.map sB) ∧ Below w.heap.size w wr) (fun _ _ i _ => B.size - (intOf i).toNat)
  case atStart => exact ⟨0, 0, [], Nat.zero_le _, Nat.le_refl _, rfl, rfl, rfl, World.ownsRow_nil _ _ _ _, Below.refl _ _⟩
  case round =>
    obtain ⟨k, F, d, hk, hF, rfl, rfl, hd, hown, hnx⟩ := hrel
    have hwz := hnx.size
    have hdl : d.length ≤ 3001 := by
      have h1 := Wdn.splF_len (l.take k)
      rw [hd, List.length_append, List.length_take] at h1
      have := HBS.out
      simp at h1
      omega
    have HO := Lib.hid hown
    have HN := Lib.hid hnx
    have HD := Lib.hid hd
    clear hown hnx hd
    by_cases hlt : k < B.size
    · have hlt2 : k < l.length := by have := HBS.out; omega
      have HX := Lib.hid (Num.byte_at HB.out k hlt hlt2)
      by_cases hc : B[k] = 10
      · have e1 : (((B[k].toNat : Nat) : Int) == 10) = true := by rw [hc]; rfl
        have HS := Lib.hid (show Wdn.splF (l.take (k + 1)) = (d ++ [(l.take k).drop F]) ++ [(l.take (k + 1)).drop (k + 1)] by
          have hz : (l.take (k + 1)).drop (k + 1) = [] := List.drop_eq_nil_of_le (by rw [List.length_take]; omega)
          rw [hz, List.take_succ_eq_append_getElem hlt2, ← HX.out, hc, Wdn.splF_snoc_sp, HD.out])
        have hsl := str_cut B (bs6 ((l.take k).drop F)) F k hF hk (by rw [← HB.out]; exact ext_part l F k (by omega) hF)
        clear hc
        generalize (l.take k).drop F = c at *
        go_wp2_with (at_builtin; refine wpList_append_own _ rfl _ _ 58 rfl w.heap.size 9 i0 (.string ⟨#[]⟩) 1 16 Tryz.underlying58 hi hz0 hz1 hz2 rfl (by decide) _ _ _ rfl (HO.out.alloc _) ⟨wr.heap.size, 0, none⟩ 1 1 [.string (bs6 c)] rfl rfl news_one (one_cell_s _) (by unfold maxLen; omega) (by omega) (by simp; omega) ?_; intro v' w1 hown' hgrow _)
        have R := Lib.hid (rel_sB (x := c) hwz HO.out hown' hgrow HN.out)
        clear hown' hgrow
        go_wp2_with fail
        go_roundw
        case rel => exact ⟨k + 1, k + 1, d ++ [c], by omega, Nat.le_refl _, by go_num, by go_num, HS.out, R.out.1, R.out.2⟩
        case measure => simp [intOf]; omega
      · have e1 : (((B[k].toNat : Nat) : Int) == 10) = false := by
          rw [beq_eq_false_iff_ne]
          intro h
          apply hc
          apply UInt8.toNat_inj.1
          show B[k].toNat = 10
          omega
        have HS := Lib.hid (show Wdn.splF (l.take (k + 1)) = d ++ [(l.take (k + 1)).drop F] by
          rw [List.take_succ_eq_append_getElem hlt2, List.drop_append_of_le_length (by rw [List.length_take]; omega)]
          exact Wdn.splF_snoc_ns (by rw [← HX.out]; exact hc) _ _ _ HD.out)
        clear hc
        go_wp2_with fail
        go_roundw
        case rel => exact ⟨k + 1, F, d, by omega, by omega, by go_num, rfl, HS.out, HO.out, HN.out⟩
        case measure => simp [intOf]; omega
    · obtain rfl : k = B.size := by omega
      have HTL := Lib.hid (show l.take B.size = l by rw [List.take_of_length_le (by have := HBS.out; omega)])
      rw [HTL.out] at HD
      have HLN := Lib.hid (Wdn.lns_of HD.out)
      by_cases hFl : F < B.size
      · have hF2 : (F : Int) < (B.size : Int) := by omega
        have hne : l.drop F ≠ [] := by
          intro h
          have h1 := congrArg List.length h
          rw [List.length_drop] at h1
          have := HBS.out
          simp at h1
          omega
        have hsl := str_from B (bs6 (l.drop F)) F (by omega) (by rw [← HB.out, bs6_size, ext_part l F l.length (Nat.le_refl _) (by have := HBS.out; omega), List.take_length])
        rw [if_neg hne] at HLN
        clear hne
        generalize l.drop F = c at *
        go_wp2_with (at_builtin; refine wpList_append_own _ rfl _ _ 58 rfl w.heap.size 9 i0 (.string ⟨#[]⟩) 1 16 Tryz.underlying58 hi hz0 hz1 hz2 rfl (by decide) _ _ _ rfl (HO.out.alloc _) ⟨wr.heap.size, 0, none⟩ 1 1 [.string (bs6 c)] rfl rfl news_one (one_cell_s _) (by unfold maxLen; omega) (by omega) (by simp; omega) ?_; intro v' w1 hown' hgrow _)
        have R := Lib.hid (rel_sB (x := c) hwz HO.out hown' hgrow HN.out)
        clear hown' hgrow
        go_wp2_with fail
        go_ret
        exact ⟨_, rfl, by rw [HLN.out]; exact R.out.1, R.out.2⟩
      · have hF2 : ¬ F < B.size := hFl
        have e1 : decide (F < B.size) = false := decide_eq_false hFl
        have he : l.drop F = [] := List.drop_eq_nil_of_le (by have := HBS.out; omega)
        rw [if_pos he] at HLN
        clear he hFl
        go_wp2_with fail
        go_ret
        exact ⟨_, rfl, by rw [HLN.out]; exact HO.out, HN.out⟩
set_option maxHeartbeats 2000000 in
theorem refListing_c (ao : Option Addr) (cap : Nat) (l : List Nat) (hl : l.length ≤ 100) (hw : ∀ X ∈ l, X < 4294967296) (w : World) (hc : WordsAt w ao l) :
    Calls Tryz.prog 17 #[.slice ao l.length cap] w fun e w' => e = .returned (.string (bs6 (listL l))) ∧ Below w.heap.size w w' := by
  have HC := Lib.hid hc
  have HW := Lib.hid hw
  obtain ⟨n, hn⟩ : ∃ n, l.length = n := ⟨_, rfl⟩
  have HLN := Lib.hid hn
  rw [hn] at hl ⊢
  clear hc hw hn
  go_enter Tryz.func17, Tryz.ntmps17
  go_wp2_with fail
  go_loopw [3, 4] (fun s i wr => ∃ k : Nat, k ≤ n ∧ i = .int .i64 k ∧ s = .string (bs6 (listL (l.take k))) ∧ Below w.heap.size w wr) (fun _ i _ => n - (intOf i).toNat)
  case atStart => exact ⟨0, Nat.zero_le _, rfl, rfl, Below.refl _ _⟩
  case round =>
    obtain ⟨k, hk, rfl, rfl, hb⟩ := hrel
    have HBr := Lib.hid hb
    clear hb
    by_cases hlt : k < n
    · obtain ⟨b0, off, rfl, hcc⟩ := (HC.out.low HBr.out) k (by rw [HLN.out]; exact hlt)
      have hlt2 : (k : Int) < (n : Int) := by omega
      have hX := HW.out (l.getD k 0) (by simp [List.getD, show k < l.length by rw [HLN.out]; exact hlt])
      have hLZ := listL_len (l.take k) (fun X h => HW.out X (List.mem_of_mem_take h))
      rw [List.length_take] at hLZ
      have hsz : (bs6 (listL (l.take k))).size ≤ 20000 := by rw [bs6_size]; omega
      have HLL := Lib.hid (show listL (l.take (k + 1)) = listL (l.take k) ++ ((lineW (l.getD k 0)).data.toList ++ [10]) by
        rw [take_snoc6 l k (by rw [HLN.out]; exact hlt), listL_snoc])
      have HRD := Lib.hid (fun W => refDecode_c (l.getD k 0) hX W)
      have HRP := Lib.hid (fun W => refPlain6_c (l.getD k 0) (by omega) W)
      have hds := dig_small (l.getD k 0) hX
      have hlc := line_cases (l.getD k 0) hX
      clear hLZ
      obtain ⟨X, hXK⟩ : ∃ X, X = l.getD k 0 := ⟨_, rfl⟩
      have HXK := Lib.hid hXK
      rw [← hXK] at hcc hX HLL HRD HRP hds hlc
      clear hXK
      generalize listL (l.take k) = L0 at *
      have hwr : IntKind.u64.wrap ((X : Nat) : Int) = ((X : Nat) : Int) := IntWalk.u64_in _ (by omega)
      rcases hlc with ⟨hd, hln⟩ | ⟨x, hd, hck, hf, -, hln⟩
      · rw [hd] at HRD
        have HE := Lib.hid (show ((bs6 L0 ++ ⟨#[119, 111, 114, 100, 32]⟩) ++ bs6 (Lib.decDigits X)) ++ ⟨#[10]⟩ = bs6 (listL (l.take (k + 1))) by
          rw [HLL.out, hln]
          have e1 : (⟨#[119, 111, 114, 100, 32]⟩ : ByteArray) = bs6 [119, 111, 114, 100, 32] := rfl
          have e2 : (⟨#[10]⟩ : ByteArray) = bs6 [10] := rfl
          rw [e1, e2, bs6_two, bs6_two, bs6_two, bs6_two]
          congr 1
          simp [bs6])
        clear hd hln HLL
        generalize bs6 L0 = LB at *
        generalize bs6 (Lib.decDigits X) = D at *
        go_wp2_with fail
        refine (HRD.out _).mono ?_
        rintro e w1 ⟨rfl, hb⟩
        have HB1 := Lib.hid (HBr.out.trans (hb.mono HBr.out.size))
        clear hb
        have HB2 := Lib.hid (below_setRow (HB1.out.alloc HB1.out.size (.cells zeroI 24)) HB1.out.size zeroI)
        go_upto_region 6 with (refine wpList_store_row rfl 24 _ _ rfl w1.heap.size zeroI rfl rfl 24 zeroI (CsAt.new w1 24 zeroI) info_ins rfl (by kernel_rfl) ?_)
        generalize (w1.alloc (.cells zeroI 24)).setRow w1.heap.size zeroI = w2 at *
        obtain ⟨b1, off1, he, hcc2⟩ := (HC.out.low HB2.out) k (by rw [HLN.out]; exact hlt)
        cases he
        have HCX := Lib.hid hcc2
        clear hcc hcc2
        have hcd : w2.cell? ⟨b0, off + k, none⟩ = some (.int .u32 ((X : Nat) : Int)) := by rw [HXK.out]; exact HCX.out
        go_wp2_with fail
        refine (HRP.out _).mono ?_
        rintro e w3 ⟨rfl, rfl⟩
        have hs1 : (LB ++ (⟨#[119, 111, 114, 100, 32]⟩ : ByteArray)).size ≤ 20005 := by
          rw [ByteArray.size_append]
          have : (⟨#[119, 111, 114, 100, 32]⟩ : ByteArray).size = 5 := rfl
          omega
        have hs2 : ((LB ++ (⟨#[119, 111, 114, 100, 32]⟩ : ByteArray)) ++ D).size ≤ 20025 := by
          rw [ByteArray.size_append]
          omega
        go_wp2_with fail
        go_roundw
        case rel => exact ⟨k + 1, by omega, by go_num, by rw [← HE.out], HB2.out⟩
        case measure => simp [intOf]; omega
      · rw [hd] at HRD
        have HE := Lib.hid (show (bs6 L0 ++ textS x.op x.rd x.rs1 x.rs2 x.imm x.csr x.aq x.rl) ++ ⟨#[10]⟩ = bs6 (listL (l.take (k + 1))) by
          rw [HLL.out, hln]
          have e2 : (⟨#[10]⟩ : ByteArray) = bs6 [10] := rfl
          have e3 := bs6_self (textS x.op x.rd x.rs1 x.rs2 x.imm x.csr x.aq x.rl)
          rw [← bs6_two, ← bs6_two, e3, e2, ByteArray.append_assoc])
        have hts := text_small (op := x.op) (aq := x.aq) (rl := x.rl) hf
        have HT := Lib.hid (fun W => (show Calls Tryz.prog 9 #[.agg #[.int .i64 x.op, .int .i64 x.rd, .int .i64 x.rs1, .int .i64 x.rs2, .int .i64 x.imm, .int .i64 x.csr, .bool x.aq, .bool x.rl]] W _ from refText_yes x.op x.rd x.rs1 x.rs2 x.imm x.csr x.aq x.rl W hf hck))
        clear hd hln HLL hf hck
        generalize textS x.op x.rd x.rs1 x.rs2 x.imm x.csr x.aq x.rl = T at *
        generalize bs6 L0 = LB at *
        go_wp2_with fail
        refine (HRD.out _).mono ?_
        rintro e w1 ⟨rfl, hb⟩
        have HB1 := Lib.hid (HBr.out.trans (hb.mono HBr.out.size))
        clear hb hcc
        have HB2 := Lib.hid (below_setRow (HB1.out.alloc HB1.out.size (.cells zeroI 24)) HB1.out.size (flA x))
        have HI2 := Lib.hid (CsAt.row (CsAt.new w1 24 zeroI) (flA x))
        go_upto_region 6 with (refine wpList_store_row rfl 24 _ _ rfl w1.heap.size (flA x) rfl rfl 24 zeroI (CsAt.new w1 24 zeroI) info_ins rfl (by kernel_rfl) ?_)
        generalize (w1.alloc (.cells zeroI 24)).setRow w1.heap.size (flA x) = w2 at *
        generalize w1.heap.size = b1 at *
        obtain ⟨i0, i1, i2, i3, i4, i5, i6, i7⟩ := fl8_of HI2.out
        go_wp2_with fail
        refine (HT.out _).mono ?_
        rintro e w3 ⟨rfl, hb⟩
        have HB3 := Lib.hid (HB2.out.trans (hb.mono HB2.out.size))
        clear hb i0 i1 i2 i3 i4 i5 i6 i7
        have hs1 : (LB ++ T).size ≤ 20120 := by
          rw [ByteArray.size_append]
          omega
        go_wp2_with fail
        go_roundw
        case rel => exact ⟨k + 1, by omega, by go_num, by rw [← HE.out], HB3.out⟩
        case measure => simp [intOf]; omega
    · obtain rfl : k = n := by omega
      have HTK := Lib.hid (show l.take k = l by rw [List.take_of_length_le (by rw [HLN.out]; exact Nat.le_refl _)])
      rw [HTK.out]
      obtain ⟨S, hS⟩ : ∃ S, bs6 (listL l) = S := ⟨_, rfl⟩
      have HS := Lib.hid hS
      rw [hS]
      clear hS
      go_wp2_with fail
      go_ret
      exact ⟨by rw [HS.out]; rfl, HBr.out⟩
end Go.Proofs.YthehcplogkgkeaaGreatDoor
set_option maxRecDepth 4000
namespace Go.Proofs.YthehcplogkgkeaaGreatDoor
open Go.ChangeShapes Go.WideShapes Go.ChangeAt Go.RowKit Wd Num

/-- The word of an instruction. -/
def wrd (x : Fl) : Int := encI (fixV x.op) (layD (fmtN x.op : Nat) x.imm) x.rd x.rs1 x.rs2 x.csr x.aq x.rl
/-- Is a line left out: is it empty, or does it begin with a number sign? -/
def skipB (s : List UInt8) : Bool := s.isEmpty || s.head? == some 35
/-- The words of the first k lines, or the first line that can't be, and why. -/
def preW (L : List (List UInt8)) : Nat → Except (Nat × Int) (List Int)
  | 0 => .ok []
  | k + 1 => match preW L k with
    | .error e => .error e
    | .ok ws => if skipB (L.getD k []) = true then .ok ws else
      match refE (L.getD k []) with
      | .error e => .error (k + 1, e)
      | .ok x => .ok (ws ++ [wrd x])
def resW (r : Except (Nat × Int) (List Int)) : List Int × Int × Int :=
  match r with
  | .ok ws => (ws, 0, 0)
  | .error p => ([], (p.1 : Nat), p.2)
theorem preW_err {L : List (List UInt8)} {e : Nat × Int} {k : Nat} (h : preW L k = .error e) : ∀ m, preW L (k + m) = .error e
  | 0 => h
  | m + 1 => by
    show (match preW L (k + m) with | .error e => Except.error e | .ok ws => _) = _
    rw [preW_err h m]
theorem preW_skip {L : List (List UInt8)} {ws : List Int} {k : Nat} (h : preW L k = .ok ws) (hs : skipB (L.getD k []) = true) : preW L (k + 1) = .ok ws := by
  unfold preW
  rw [h]
  simp only [hs, if_true]
theorem preW_bad {L : List (List UInt8)} {ws : List Int} {k : Nat} {e : Int} (h : preW L k = .ok ws) (hs : skipB (L.getD k []) = false) (he : refE (L.getD k []) = .error e) : preW L (k + 1) = .error (k + 1, e) := by
  unfold preW
  rw [h]
  simp only [hs, Bool.false_eq_true, if_false, he]
theorem preW_add {L : List (List UInt8)} {ws : List Int} {k : Nat} {x : Fl} (h : preW L k = .ok ws) (hs : skipB (L.getD k []) = false) (he : refE (L.getD k []) = .ok x) : preW L (k + 1) = .ok (ws ++ [wrd x]) := by
  unfold preW
  rw [h]
  simp only [hs, Bool.false_eq_true, if_false, he]
theorem preW_len {L : List (List UInt8)} : ∀ (k : Nat) {ws : List Int}, preW L k = .ok ws → ws.length ≤ k
  | 0, ws, h => by cases h; simp
  | k + 1, ws, h => by
    cases hk : preW L k with
    | error e => rw [preW_err hk 1] at h; cases h
    | ok vs =>
      have h1 := preW_len k hk
      by_cases hs : skipB (L.getD k []) = true
      · rw [preW_skip hk hs] at h; cases h; omega
      · have hs' : skipB (L.getD k []) = false := by simpa using hs
        cases he : refE (L.getD k []) with
        | error e => rw [preW_bad hk hs' he] at h; cases h
        | ok x => rw [preW_add hk hs' he] at h; cases h; simp; omega
theorem refE_ok {s : List UInt8} {x : Fl} (h : refE s = .ok x) : checkF x = 0 := by
  unfold refE at h
  split at h
  · cases h
  split at h
  · cases h
  split at h
  · cases h
  split at h
  · cases h
  split at h
  · cases h
  · unfold finR at h
    split at h
    · split at h
      · cases h
      split at h
      · rename_i hc
        cases h
        exact hc
      · cases h
    · cases h
theorem retV_ok (x : Fl) : retV (.ok x) = .tuple #[.agg (flA x), .int .i64 0] := rfl
theorem retV_er (e : Int) : retV (.error e) = .tuple #[.agg zeroI, .int .i64 e] := rfl
theorem refE_ne {s : List UInt8} {e : Int} (h : refE s = .error e) : (e == 0) = false ∧ (e != 0) = true := by
  have key : e = 2 ∨ e = 3 ∨ e = 4 ∨ e = 5 ∨ e = 9 := by
    have hr : ∀ (k : Kd) (s : List UInt8) (x : Fl) (f : Bool) (e : Int), rstep k s x f = .error e → e = 2 ∨ e = 9 := by
      intro k s x f e h
      cases k <;> unfold rstep at h <;> simp only at h <;> split at h <;> first | (cases h; done) | (cases h; simp)
    have hp : ∀ (Ks : List Kd) (ws : Nat → List UInt8) (x0 : Fl) (k : Nat) (e : Int), preR Ks ws x0 k = .error e → e = 2 ∨ e = 9 := by
      intro Ks ws x0 k
      induction k with
      | zero => intro e h; cases h
      | succ k ih =>
        intro e h
        unfold preR at h
        split at h
        · exact hr _ _ _ _ _ h
        · rename_i e' he
          cases h
          exact ih _ he
    unfold refE at h
    split at h
    · cases h; simp
    split at h
    · cases h; simp
    split at h
    · cases h; simp
    split at h
    · cases h; simp
    split at h
    · cases h; simp
    · unfold finR at h
      split at h
      · split at h
        · cases h; simp
        split at h
        · cases h
        · cases h; simp
      · rename_i e' he
        cases h
        rcases hp _ _ _ _ _ he with h1 | h1 <;> simp [h1]
  rcases key with rfl | rfl | rfl | rfl | rfl <;> decide
/-- What Words leaves: a slice of its own, a line's number and an error. -/
def WPost (k : IntKind) (T : TypeId) (r : Except (Nat × Int) (List Int)) (w : World) (e : Ending) (w' : World) : Prop :=
  ∃ v ws n er, e = .returned (.tuple #[v, .int .i64 n, .int .i64 er]) ∧ resW r = (ws, n, er) ∧ w'.ownsRow w.heap.size T 1 v ws.length (ws.map (Value.int k)) ∧ Below w.heap.size w w'
theorem rel_k {k : IntKind} {T : TypeId} {base : Nat} {w wr w1 : World} {v v' : Value} {l : List Int} {o : Obj} {x : Int} (hb : base ≤ wr.heap.size)
    (hown : wr.ownsRow base T 1 v l.length (l.map (Value.int k))) (hown' : w1.ownsRow base T 1 v' (l.length + 1) (l.map (Value.int k) ++ [.int k x])) (hgrow : (wr.alloc o).grownBy w1 v.ownBlock) (hnx : Below base w wr) :
    w1.ownsRow base T 1 v' (l ++ [x]).length ((l ++ [x]).map (Value.int k)) ∧ Below base w w1 := by
  refine ⟨by rw [List.length_append, List.map_append]; exact hown', (hnx.alloc hb o).grown hgrow (by simp; omega) (fun j hj => (hown.lt j hj).1)⟩
theorem owns_low {base n : Nat} {T : TypeId} {v : Value} {xs : List Value} {w w' : World} (h : w.ownsRow base T 1 v n xs) (hb : Below w.heap.size w w') : w'.ownsRow base T 1 v n xs := by
  refine ⟨h.1, ?_⟩
  rcases h.2 with h5 | ⟨g, cap, cur, e, f1, f2, f3, f4, f5, f6⟩
  · exact .inl h5
  · exact .inr ⟨g, cap, cur, e, f1, (hb.block g (lt_heap f2)).trans f2, f3, f4, f5, f6⟩
theorem one_cell_k (k : IntKind) (n : Int) : ∀ u ∈ [Value.int k n], u.oneCell' = true := by
  intro u hu; simp at hu; subst hu; rfl
end Go.Proofs.YthehcplogkgkeaaGreatDoor
