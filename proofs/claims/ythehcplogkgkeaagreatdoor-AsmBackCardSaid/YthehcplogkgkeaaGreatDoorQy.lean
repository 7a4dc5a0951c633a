/-
  What the reference's Parse answers (layer 6), as a function of a line; plain. That asm.Parse and the reference's Parse answer the same (layer 6); plain.
-/
import Derived.Test.YthehcplogkgkeaaGreatDoorQw
import Derived.Test.YthehcplogkgkeaaGreatDoorQx
import Derived.Test.YthehcplogkgkeaaGreatDoorQi
set_option maxRecDepth 4000
namespace Go.Proofs.YthehcplogkgkeaaGreatDoor
open Go.ChangeShapes Go.WideShapes Go.ChangeAt Go.RowKit Wd Num Wds

/-- What the reference reads of a word into an instruction; the second: was a number too far? -/
def rstep (k : Kd) (s : List UInt8) (x : Fl) (far : Bool) : Except Int (Fl × Bool) :=
  match k with
  | .rd => match Rg.findR (bs6 s) with | some i => .ok ({ x with rd := i }, far) | none => .error 9
  | .rs1 => match Rg.findR (bs6 s) with | some i => .ok ({ x with rs1 := i }, far) | none => .error 9
  | .rs2 => match Rg.findR (bs6 s) with | some i => .ok ({ x with rs2 := i }, far) | none => .error 9
  | .csr => match numR s with | some n => .ok (if 0 ≤ n ∧ n ≤ 4095 then ({ x with csr := n }, false) else (x, true)) | none => .error 2
  | .num => match numR s with | some n => .ok (if 0 ≤ n ∧ n ≤ 31 then ({ x with rs1 := n }, far) else (x, true)) | none => .error 2
  | .imm => match numR s with | some n => .ok ({ x with imm := n }, far) | none => .error 2
  | .up => match numR s with | some n => .ok (if -524288 ≤ n ∧ n ≤ 524287 then ({ x with imm := n * 4096 }, false) else (x, true)) | none => .error 2
def preR (Ks : List Kd) (ws : Nat → List UInt8) (x0 : Fl) : Nat → Except Int (Fl × Bool)
  | 0 => .ok (x0, false)
  | k + 1 => match preR Ks ws x0 k with
    | .ok p => rstep (Ks.getD k .rd) (ws k) p.1 p.2
    | .error e => .error e
def finR (r : Except Int (Fl × Bool)) : Except Int Fl :=
  match r with
  | .ok p => if p.2 = true then .error 3 else if checkF p.1 = 0 then .ok p.1 else .error 3
  | .error e => .error e
def retV (r : Except Int Fl) : Value :=
  match r with
  | .ok x => .tuple #[.agg (flA x), .int .i64 0]
  | .error e => .tuple #[.agg zeroI, .int .i64 e]
def restW (L : List (List UInt8)) (j : Nat) : List UInt8 := L.getD (j + 1) []
def refE (l : List UInt8) : Except Int Fl :=
  if 200 < l.length then .error 4 else if l.length = 0 then .error 5 else if [] ∈ splF l then .error 2 else
  match nameL ((splF l).getD 0 []) with
  | none => .error 9
  | some p => if (splF l).length ≠ (kdL (fmtN (p.1 : Nat))).length + 1 then .error 2 else finR (preR (kdL (fmtN (p.1 : Nat))) (restW (splF l)) (opF p.1 p.2) (kdL (fmtN (p.1 : Nat))).length)
theorem preR_err {Ks : List Kd} {ws : Nat → List UInt8} {x0 : Fl} {e : Int} {k : Nat} (h : preR Ks ws x0 k = .error e) : ∀ m, preR Ks ws x0 (k + m) = .error e
  | 0 => h
  | m + 1 => by
    show (match preR Ks ws x0 (k + m) with | .ok p => rstep (Ks.getD (k + m) .rd) (ws (k + m)) p.1 p.2 | .error e => .error e) = .error e
    rw [preR_err h m]
theorem preR_step {Ks : List Kd} {ws : Nat → List UInt8} {x0 x : Fl} {f : Bool} {k : Nat} (h : preR Ks ws x0 k = .ok (x, f)) : preR Ks ws x0 (k + 1) = rstep (Ks.getD k .rd) (ws k) x f := by
  show (match preR Ks ws x0 k with | .ok p => rstep (Ks.getD k .rd) (ws k) p.1 p.2 | .error e => .error e) = _
  rw [h]
theorem rs_csr_no {s : List UInt8} {x : Fl} {f : Bool} {n : Int} (h : numR s = some n) (hn : ¬ (0 ≤ n ∧ n ≤ 4095)) : rstep .csr s x f = .ok (x, true) := by simp only [rstep, h, hn, if_false]
theorem rs_csr_ok {s : List UInt8} {x : Fl} {f : Bool} {n : Int} (h : numR s = some n) (hn : 0 ≤ n ∧ n ≤ 4095) : rstep .csr s x f = .ok ({ x with csr := n }, false) := by simp only [rstep, h, hn, and_self, if_true]
theorem rs_num_no {s : List UInt8} {x : Fl} {f : Bool} {n : Int} (h : numR s = some n) (hn : ¬ (0 ≤ n ∧ n ≤ 31)) : rstep .num s x f = .ok (x, true) := by simp only [rstep, h, hn, if_false]
theorem rs_num_ok {s : List UInt8} {x : Fl} {f : Bool} {n : Int} (h : numR s = some n) (hn : 0 ≤ n ∧ n ≤ 31) : rstep .num s x f = .ok ({ x with rs1 := n }, f) := by simp only [rstep, h, hn, and_self, if_true]
theorem rs_up_no {s : List UInt8} {x : Fl} {f : Bool} {n : Int} (h : numR s = some n) (hn : ¬ (-524288 ≤ n ∧ n ≤ 524287)) : rstep .up s x f = .ok (x, true) := by simp only [rstep, h, hn, if_false]
theorem rs_up_ok {s : List UInt8} {x : Fl} {f : Bool} {n : Int} (h : numR s = some n) (hn : -524288 ≤ n ∧ n ≤ 524287) : rstep .up s x f = .ok ({ x with imm := n * 4096 }, false) := by simp only [rstep, h, hn, and_self, if_true]
theorem rs_imm {s : List UInt8} {x : Fl} {f : Bool} {n : Int} (h : numR s = some n) : rstep .imm s x f = .ok ({ x with imm := n }, f) := by simp only [rstep, h]
end Go.Proofs.YthehcplogkgkeaaGreatDoor
set_option maxRecDepth 4000
namespace Go.Proofs.YthehcplogkgkeaaGreatDoor
open Go.ChangeShapes Go.WideShapes Go.ChangeAt Go.RowKit Wd Num Wds

theorem words_bs (l : ByteArray) : wordsB l = (splF l.data.toList).map bs6 := by
  rw [← words_map l, List.map_map]
  have : (bs6 ∘ fun x : ByteArray => x.data.toList) = id := by
    funext x
    exact bs6_self x
  rw [this, List.map_id]
theorem words_getD (l : ByteArray) (j : Nat) : (wordsB l).getD j ByteArray.empty = bs6 ((splF l.data.toList).getD j []) := by
  rw [words_bs]
  simp only [List.getD, List.getElem?_map]
  cases (splF l.data.toList)[j]? <;> rfl
theorem contains_bs (l : ByteArray) : Lib.containsS (wordsB l) ⟨#[]⟩ = true ↔ [] ∈ splF l.data.toList := by
  rw [Lib.containsS_iff, words_bs]
  constructor
  · intro h
    obtain ⟨a, ha, he⟩ := List.mem_map.1 h
    obtain rfl : a = [] := by
      have := congrArg (fun x : ByteArray => x.data.toList) he
      simpa [bs6] using this
    exact ha
  · intro h
    exact List.mem_map.2 ⟨[], h, rfl⟩
/-- Two instructions that are the same, or neither of which may be. -/
theorem cmp_ok {x y : Fl} (h : x = y ∨ (checkF x ≠ 0 ∧ checkF y ≠ 0)) : finV (.ok x) = retV (finR (.ok (y, false))) := by
  rcases h with rfl | ⟨h1, h2⟩
  · by_cases hc : checkF x = 0
    · simp only [finV, finR, hc, if_true, retV]; rfl
    · simp only [finV, finR, hc, if_false, retV]; rfl
  · simp only [finV, finR, h1, h2, if_false, retV]; rfl
theorem cmp_far {x y : Fl} (h : checkF x ≠ 0) : finV (.ok x) = retV (finR (.ok (y, true))) := by
  simp only [finV, finR, h, if_false, if_true, retV]
theorem held_in {n : Int} (h : -1073741824 ≤ n ∧ n ≤ 1073741824) : heldN n = n := by unfold heldN; omega
theorem held_out {n : Int} (h : ¬ (-1073741824 ≤ n ∧ n ≤ 1073741824)) : heldN n = -1073741824 ∨ heldN n = 1073741824 := by unfold heldN; omega
theorem far_imm {x : Fl} (hf : fmtN x.op ≠ 5) (h : ¬ (-1048576 ≤ x.imm ∧ x.imm ≤ 1048576)) : checkF x ≠ 0 := fun hc => h ((check_imm (show checkS x.op x.rd x.rs1 x.rs2 x.imm x.csr x.aq x.rl = 0 from hc)).2 hf)
theorem far_up {x : Fl} (h : ¬ (-2147483648 ≤ x.imm ∧ x.imm < 2147483648)) : checkF x ≠ 0 := fun hc => h (check_imm (show checkS x.op x.rd x.rs1 x.rs2 x.imm x.csr x.aq x.rl = 0 from hc)).1
theorem far_csr {x : Fl} (h : ¬ (0 ≤ x.csr ∧ x.csr < 4096)) : checkF x ≠ 0 := fun hc => h (check_in (show checkS x.op x.rd x.rs1 x.rs2 x.imm x.csr x.aq x.rl = 0 from hc)).2.2.2.2.2
theorem far_rs1 {x : Fl} (h : ¬ (0 ≤ x.rs1 ∧ x.rs1 < 32)) : checkF x ≠ 0 := fun hc => h (check_in (show checkS x.op x.rd x.rs1 x.rs2 x.imm x.csr x.aq x.rl = 0 from hc)).2.2.2.1
theorem cmp_imm (x : Fl) (n : Int) (hf : fmtN x.op ≠ 5) : finV (.ok { x with imm := heldN n }) = retV (finR (.ok ({ x with imm := n }, false))) := by
  by_cases h : -1073741824 ≤ n ∧ n ≤ 1073741824
  · exact cmp_ok (.inl (by rw [held_in h]))
  · refine cmp_ok (.inr ⟨far_imm hf ?_, far_imm hf ?_⟩)
    · rcases held_out h with e | e <;> simp only [e] <;> decide
    · show ¬ (-1048576 ≤ n ∧ n ≤ 1048576)
      omega
theorem cmp_up (x : Fl) (n : Int) : finV (.ok { x with imm := heldN n * 4096 }) = retV (finR (.ok (if -524288 ≤ n ∧ n ≤ 524287 then ({ x with imm := n * 4096 }, false) else (x, true)))) := by
  by_cases h : -524288 ≤ n ∧ n ≤ 524287
  · rw [if_pos h]
    exact cmp_ok (.inl (by rw [held_in (by omega)]))
  · rw [if_neg h]
    refine cmp_far (far_up ?_)
    show ¬ (-2147483648 ≤ heldN n * 4096 ∧ heldN n * 4096 < 2147483648)
    unfold heldN
    omega
theorem num_R (l : List UInt8) : numP (bs6 l).data.toList = numR l := num_eq l
/-- The operands of a line, read by the program and by the reference. -/
theorem pre_same (n : Nat) (h1 : 1 ≤ n) (h2 : n ≤ 98) (x0 : Fl) (hx : x0.op = (n : Nat)) (ws : Nat → List UInt8) :
    finV (preK (kdL (fmtN (n : Nat))) (fun j => bs6 (ws j)) x0 (kdL (fmtN (n : Nat))).length) = retV (finR (preR (kdL (fmtN (n : Nat))) ws x0 (kdL (fmtN (n : Nat))).length)) := by
  have hf : 1 ≤ fmtN ((n : Nat) : Int) ∧ fmtN ((n : Nat) : Int) ≤ 14 := by
    have h3 := fmt_le ((n : Nat) : Int)
    have h4 : fmtN ((n : Nat) : Int) ≠ 0 := fun e => (fmt_zero _).1 e (by omega)
    omega
  have hF : fmtN x0.op = fmtN ((n : Nat) : Int) := by rw [hx]
  obtain ⟨f, hfe⟩ : ∃ f, fmtN ((n : Nat) : Int) = f := ⟨_, rfl⟩
  rw [hfe] at hf hF ⊢
  clear hfe h1 h2 hx
  have : f = 1 ∨ f = 2 ∨ f = 3 ∨ f = 4 ∨ f = 5 ∨ f = 6 ∨ f = 7 ∨ f = 8 ∨ f = 9 ∨ f = 10 ∨ f = 11 ∨ f = 12 ∨ f = 13 ∨ f = 14 := by omega
  rcases this with rfl | rfl | rfl | rfl | rfl | rfl | rfl | rfl | rfl | rfl | rfl | rfl | rfl | rfl
  all_goals
    simp only [kdL, List.length_cons, List.length_nil, Nat.zero_add, Nat.reduceAdd, preK, preR, List.getD_cons_zero, List.getD_cons_succ, stepK, rstep, num_R]
  · cases Rg.findR (bs6 (ws 0)) with
    | none => rfl
    | some a =>
      cases Rg.findR (bs6 (ws 1)) with
      | none => rfl
      | some b =>
        cases Rg.findR (bs6 (ws 2)) with
        | none => rfl
        | some c =>
          exact cmp_ok (.inl rfl)
  · cases Rg.findR (bs6 (ws 0)) with
    | none => rfl
    | some a =>
      cases Rg.findR (bs6 (ws 1)) with
      | none => rfl
      | some b =>
        cases numR (ws 2) with
        | none => rfl
        | some c =>
          exact cmp_imm _ _ (by show fmtN x0.op ≠ 5; rw [hF]; decide)
  · cases Rg.findR (bs6 (ws 0)) with
    | none => rfl
    | some a =>
      cases Rg.findR (bs6 (ws 1)) with
      | none => rfl
      | some b =>
        cases numR (ws 2) with
        | none => rfl
        | some c =>
          exact cmp_imm _ _ (by show fmtN x0.op ≠ 5; rw [hF]; decide)
  · cases Rg.findR (bs6 (ws 0)) with
    | none => rfl
    | some a =>
      cases Rg.findR (bs6 (ws 1)) with
      | none => rfl
      | some b =>
        cases numR (ws 2) with
        | none => rfl
        | some c =>
          exact cmp_imm _ _ (by show fmtN x0.op ≠ 5; rw [hF]; decide)
  · cases Rg.findR (bs6 (ws 0)) with
    | none => rfl
    | some a =>
      cases numR (ws 1) with
      | none => rfl
      | some b =>
        exact cmp_up _ _
  · cases Rg.findR (bs6 (ws 0)) with
    | none => rfl
    | some a =>
      cases numR (ws 1) with
      | none => rfl
      | some b =>
        exact cmp_imm _ _ (by show fmtN x0.op ≠ 5; rw [hF]; decide)
  · cases Rg.findR (bs6 (ws 0)) with
    | none => rfl
    | some a =>
      cases Rg.findR (bs6 (ws 1)) with
      | none => rfl
      | some b =>
        cases numR (ws 2) with
        | none => rfl
        | some c =>
          exact cmp_imm _ _ (by show fmtN x0.op ≠ 5; rw [hF]; decide)
  · cases Rg.findR (bs6 (ws 0)) with
    | none => rfl
    | some a =>
      cases Rg.findR (bs6 (ws 1)) with
      | none => rfl
      | some b =>
        cases numR (ws 2) with
        | none => rfl
        | some c =>
          exact cmp_imm _ _ (by show fmtN x0.op ≠ 5; rw [hF]; decide)
  · cases Rg.findR (bs6 (ws 0)) with
    | none => rfl
    | some a =>
      cases numR (ws 1) with
      | none => rfl
      | some b =>
        cases Rg.findR (bs6 (ws 2)) with
        | none => rfl
        | some c =>
          by_cases h1 : 0 ≤ b ∧ b ≤ 4095
          · simp only [h1, and_self, if_true]
            exact cmp_ok (.inl (by rw [held_in (by omega)]))
          · simp only [h1, if_false]
            exact cmp_far (far_csr (by show ¬ (0 ≤ heldN b ∧ heldN b < 4096); unfold heldN; omega))
  · cases Rg.findR (bs6 (ws 0)) with
    | none => rfl
    | some a =>
      cases numR (ws 1) with
      | none => rfl
      | some b =>
        cases numR (ws 2) with
        | none => rfl
        | some c =>
          by_cases h1 : 0 ≤ b ∧ b ≤ 4095
          · by_cases h2 : 0 ≤ c ∧ c ≤ 31
            · simp only [h1, h2, and_self, if_true]
              exact cmp_ok (.inl (by rw [held_in (by omega), held_in (by omega)]))
            · simp only [h1, h2, and_self, if_true, if_false]
              exact cmp_far (far_rs1 (by show ¬ (0 ≤ heldN c ∧ heldN c < 32); unfold heldN; omega))
          · have hc : ¬ (0 ≤ heldN b ∧ heldN b < 4096) := by unfold heldN; omega
            by_cases h2 : 0 ≤ c ∧ c ≤ 31
            · simp only [h1, h2, and_self, if_true, if_false]
              exact cmp_far (far_csr hc)
            · simp only [h1, h2, if_false]
              exact cmp_far (far_csr hc)
  · cases Rg.findR (bs6 (ws 0)) with
    | none => rfl
    | some a =>
      cases Rg.findR (bs6 (ws 1)) with
      | none => rfl
      | some b =>
        cases Rg.findR (bs6 (ws 2)) with
        | none => rfl
        | some c =>
          exact cmp_ok (.inl rfl)
  · cases Rg.findR (bs6 (ws 0)) with
    | none => rfl
    | some a =>
      cases Rg.findR (bs6 (ws 1)) with
      | none => rfl
      | some b =>
        exact cmp_ok (.inl rfl)
  · exact cmp_ok (.inl rfl)
  · cases Rg.findR (bs6 (ws 0)) with
    | none => rfl
    | some a =>
      cases Rg.findR (bs6 (ws 1)) with
      | none => rfl
      | some b =>
        exact cmp_ok (.inl rfl)
theorem parse_ref (l : ByteArray) : parseV l = retV (refE l.data.toList) := by
  have hz : l.size = l.data.toList.length := rfl
  unfold parseV parseE refE
  by_cases h1 : 200 < l.data.toList.length
  · rw [if_pos (by rw [hz]; exact h1), if_pos h1]
    rfl
  rw [if_neg (by rw [hz]; exact h1), if_neg h1]
  by_cases h2 : l.data.toList.length = 0
  · rw [if_pos (by rw [hz]; exact h2), if_pos h2]
    rfl
  rw [if_neg (by rw [hz]; exact h2), if_neg h2]
  by_cases h3 : [] ∈ splF l.data.toList
  · rw [if_pos ((contains_bs l).2 h3), if_pos h3]
    rfl
  rw [if_neg (fun h => h3 ((contains_bs l).1 h)), if_neg h3]
  have hn := nameF_L ((wordsB l).getD 0 ByteArray.empty)
  rw [words_getD l 0, show (bs6 ((splF l.data.toList).getD 0 [])).data.toList = (splF l.data.toList).getD 0 [] from rfl] at hn
  rw [words_getD l 0, hn]
  have hlen : (wordsB l).length = (splF l.data.toList).length := by rw [words_bs, List.length_map]
  cases h4 : nameL ((splF l.data.toList).getD 0 []) with
  | none => rfl
  | some p =>
    obtain ⟨n, k⟩ := p
    obtain ⟨g1, g2, -, -, -⟩ := nameL_some h4
    simp only [Option.map_some, hlen]
    have hw : wsF l = fun j => bs6 (restW (splF l.data.toList) j) := by
      funext j
      exact words_getD l (j + 1)
    have hop : (opF n k).op = ((n : Nat) : Int) := rfl
    rw [hop, hw]
    by_cases h5 : (splF l.data.toList).length = (kdL (fmtN ((n : Nat) : Int))).length + 1
    · rw [if_neg (fun h => h h5), if_neg (fun h => h h5)]
      exact pre_same n g1 g2 (opF n k) rfl (restW (splF l.data.toList))
    · rw [if_pos h5, if_pos h5]
      rfl
end Go.Proofs.YthehcplogkgkeaaGreatDoor
