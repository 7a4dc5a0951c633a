/-
  What is written is read as it was (layer 6): the line of an instruction is read as that instruction; plain. What is written is read as it was (layer 6): the listing of words that are instructions; plain.
-/
import Derived.Test.YthehcplogkgkeaaGreatDoorQy
import Derived.Test.YthehcplogkgkeaaGreatDoorSa
import Derived.Test.YthehcplogkgkeaaGreatDoorSe
set_option maxRecDepth 4000
namespace Go.Proofs.YthehcplogkgkeaaGreatDoor
open Go.ChangeShapes Go.WideShapes Go.ChangeAt Go.RowKit Wd Num Wds

theorem splF_word : ∀ {w : List UInt8}, (∀ c ∈ w, c ≠ 32) → splF w = [w]
  | [], _ => rfl
  | c :: r, h => by
    have h1 := splF_word (w := r) (fun x hx => h x (by simp [hx]))
    exact splF_ns (h c (by simp)) h1
theorem splF_more : ∀ {w r : List UInt8}, (∀ c ∈ w, c ≠ 32) → splF (w ++ 32 :: r) = w :: splF r
  | [], r, _ => splF_sp r
  | c :: w, r, h => by
    have h1 := splF_more (w := w) (r := r) (fun x hx => h x (by simp [hx]))
    rw [List.cons_append]
    exact splF_ns (h c (by simp)) h1
/-- The bytes of a line of words. -/
theorem lineK_bytes : ∀ (ts : List ByteArray) (base : ByteArray), (lineK base ts).data.toList = base.data.toList ++ ts.flatMap fun t => 32 :: t.data.toList
  | [], base => by simp [lineK]
  | t :: ts, base => by
    have h := lineK_bytes ts (base ++ (⟨#[32]⟩ ++ t))
    have e : lineK base (t :: ts) = lineK (base ++ (⟨#[32]⟩ ++ t)) ts := rfl
    rw [e, h]
    simp [ByteArray.data_append]
theorem split_line : ∀ (ts : List (List UInt8)) (b : List UInt8), (∀ c ∈ b, c ≠ 32) → (∀ t ∈ ts, ∀ c ∈ t, c ≠ 32) → splF (b ++ ts.flatMap fun t => 32 :: t) = b :: ts
  | [], b, hb, _ => by simpa using splF_word hb
  | t :: ts, b, hb, h => by
    have h1 := split_line ts t (h t (by simp)) (fun u hu => h u (by simp [hu]))
    rw [List.flatMap_cons, List.cons_append, splF_more hb, h1]
theorem nm_plain : ∀ n : Fin 99, ∀ c ∈ Tab.nmL n.val, c ≠ 32 := by decide +kernel
theorem nm_some : ∀ n : Fin 98, Tab.nmL (n.val + 1) ≠ [] := by decide +kernel
theorem suf_plain : ∀ k : Fin 4, ∀ c ∈ sufL k.val, c ≠ 32 := by decide +kernel
theorem rg_plain : ∀ i : Fin 32, ∀ c ∈ Rg.nmR i.val, c ≠ 32 := by decide +kernel
theorem rg_some : ∀ i : Fin 32, Rg.nmR i.val ≠ [] := by decide +kernel
theorem rg_find : ∀ i : Fin 32, Rg.findR (bs6 (Rg.nmR i.val)) = some i.val := by decide +kernel
theorem dec_plain (u : Nat) : ∀ c ∈ Lib.decDigits u, c ≠ 32 := by
  intro c hc h
  have := List.all_eq_true.1 (dec_all u) c hc
  subst h
  simp [isDig] at this
theorem itoa_plain (n : Int) : ∀ c ∈ Lib.itoa n, c ≠ 32 := by
  intro c hc
  unfold Lib.itoa at hc
  split at hc
  · rcases List.mem_cons.1 hc with rfl | h
    · decide
    · exact dec_plain _ c h
  · exact dec_plain _ c hc
theorem itoa_some (n : Int) : Lib.itoa n ≠ [] := by
  unfold Lib.itoa
  split
  · simp
  · obtain ⟨c, r, h, -⟩ := dec_head n.toNat
    rw [h]; simp
theorem numR_itoa (n : Int) (h0 : -9223372036854775808 ≤ n) (h1 : n ≤ 9223372036854775807) : numR (Lib.itoa n) = some n := by
  have hg := good_itoa n h0 h1
  unfold numR
  rw [hg.1, hg.2]
  simp
/-- The words behind a name, as bytes. -/
def wK (k : Kd) (x : Fl) : List UInt8 := (txtK k x.rd x.rs1 x.rs2 x.imm x.csr).data.toList
structure RegsIn (x : Fl) : Prop where
  rd : 0 ≤ x.rd ∧ x.rd < 32
  rs1 : 0 ≤ x.rs1 ∧ x.rs1 < 32
  rs2 : 0 ≤ x.rs2 ∧ x.rs2 < 32
  csr : 0 ≤ x.csr ∧ x.csr < 4096
theorem name_plain {i : Int} (h : 0 ≤ i ∧ i < 32) : (∀ c ∈ Rg.nameR i, c ≠ 32) ∧ Rg.nameR i ≠ [] ∧ Rg.findR (bs6 (Rg.nameR i)) = some i.toNat := by
  have e : Rg.nameR i = Rg.nmR i.toNat := nameR_in h.1 h.2
  rw [e]
  exact ⟨rg_plain ⟨i.toNat, by omega⟩, rg_some ⟨i.toNat, by omega⟩, rg_find ⟨i.toNat, by omega⟩⟩
theorem wK_plain (k : Kd) (x : Fl) (h : RegsIn x) : (∀ c ∈ wK k x, c ≠ 32) ∧ wK k x ≠ [] := by
  cases k
  · exact ⟨(name_plain h.rd).1, (name_plain h.rd).2.1⟩
  · exact ⟨(name_plain h.rs1).1, (name_plain h.rs1).2.1⟩
  · exact ⟨(name_plain h.rs2).1, (name_plain h.rs2).2.1⟩
  · exact ⟨itoa_plain _, itoa_some _⟩
  · exact ⟨itoa_plain _, itoa_some _⟩
  · exact ⟨itoa_plain _, itoa_some _⟩
  · exact ⟨itoa_plain _, itoa_some _⟩
theorem text_small6 {op rd rs1 rs2 imm csr : Int} {aq rl : Bool} (hf : FitI rd rs1 rs2 imm csr) : (textS op rd rs1 rs2 imm csr aq rl).data.toList.length ≤ 120 := by
  show (textS op rd rs1 rs2 imm csr aq rl).size ≤ 120
  unfold textS
  have h1 := lineK_size (nameB op ++ ordB aq rl) ((kdL (fmtN op)).map fun k => txtK k rd rs1 rs2 imm csr) (fun t ht => by
    simp only [List.mem_map] at ht
    obtain ⟨a, _, rfl⟩ := ht
    exact txtK_small a hf)
  have h2 := kdL_len (fmtN op)
  have h3 := ordB_size aq rl
  have h4 := nameB_size op
  rw [ByteArray.size_append, List.length_map] at h1
  omega
def kOf (aq rl : Bool) : Nat := if aq then if rl then 3 else 1 else if rl then 2 else 0
theorem ord_suf (aq rl : Bool) : (ordB aq rl).data.toList = sufL (kOf aq rl) := by cases aq <;> cases rl <;> rfl
theorem ord_has : ∀ n : Fin 98, lacksB (fmtN ((n.val + 1 : Nat) : Int)) 16 = false → ((((fmtN ((n.val + 1 : Nat) : Int) : Nat) : Int) == 11 || ((fmtN ((n.val + 1 : Nat) : Int) : Nat) : Int) == 12)) = true := by decide +kernel
theorem up_low (x : Int) : (immD 5 x) % 4096 = 0 := by
  rw [show (5 : Int) = ((5 : Nat) : Int) from rfl, immD_eq 5 (by decide)]
  unfold immS
  rw [show signedOf 5 = true from rfl, if_pos rfl, show (placesOf 5).length = 32 from rfl]
  have hw : (signS (immN 5 x) (32 : Nat)) % 4096 = 0 := by
    rw [signS_pos (by decide)]
    have hn : ∀ i, i < 12 → tb (immN 5 x) i = false := by
      intro i hi
      unfold immN tb
      rw [Int.toNat_natCast, testBit_sumTo, show (placesOf 5).length = 32 from rfl]
      have : pbit 5 x i = false := by
        have hp : (placesOf 5).getD i (-1) = -1 := by
          have := pl5a i hi
          simp [List.getD, this]
        unfold pbit
        rw [hp]
        rfl
      rw [this]
      simp
    have h1 : ((word fun i : Nat => if (i : Int) < ((32 : Nat) : Int) then tb (immN 5 x) i else tb (immN 5 x) (((32 : Nat) : Int) - 1).toNat).toNat) % 2 ^ 12 = 0 := by
      apply Nat.eq_of_testBit_eq
      intro i
      rw [Nat.testBit_mod_two_pow, Nat.zero_testBit]
      by_cases hi : i < 12
      · have h2 := tb_word (fun i : Nat => if (i : Int) < ((32 : Nat) : Int) then tb (immN 5 x) i else tb (immN 5 x) (((32 : Nat) : Int) - 1).toNat) i
        have h3 : (word fun i : Nat => if (i : Int) < ((32 : Nat) : Int) then tb (immN 5 x) i else tb (immN 5 x) (((32 : Nat) : Int) - 1).toNat).toNat.testBit i = false := by
          rw [if_pos (by omega), hn i hi] at h2
          exact h2.trans (by simp)
        rw [h3]
        simp
      · simp [hi]
    have h0 := word_nonneg (fun i : Nat => if (i : Int) < ((32 : Nat) : Int) then tb (immN 5 x) i else tb (immN 5 x) (((32 : Nat) : Int) - 1).toNat)
    omega
  have hr := signS_range (immN 5 x) (32 : Nat)
  unfold wrap64
  omega
theorem lack_all {f : Nat} {rd rs1 rs2 imm csr : Int} {aq rl : Bool} (h : foreignS f rd rs1 rs2 imm csr aq rl = false) : (lacksB f 1 = true → rd = 0) ∧ (lacksB f 2 = true → rs1 = 0) ∧ (lacksB f 4 = true → rs2 = 0) ∧ (lacksB f 8 = true → csr = 0) ∧ (lacksB f 16 = true → aq = false ∧ rl = false) ∧ ((partsL (f : Nat)).isEmpty = true → imm = 0) := by
  unfold foreignS at h
  simp only [Bool.or_eq_false_iff] at h
  obtain ⟨⟨⟨⟨⟨h1, h2⟩, h3⟩, h4⟩, h5⟩, h6⟩ := h
  refine ⟨fun e => ?_, fun e => ?_, fun e => ?_, fun e => ?_, fun e => ?_, fun e => ?_⟩
  · rw [e] at h1; simpa using h1
  · rw [e] at h2; simpa using h2
  · rw [e] at h3; simpa using h3
  · rw [e] at h4; simpa using h4
  · rw [e] at h5; simpa using h5
  · rw [e] at h6; simpa using h6
theorem back_pre (x : Fl) (hr : RegsIn x) (hi : -2147483648 ≤ x.imm ∧ x.imm < 2147483648) (f : Nat) (h1 : 1 ≤ f) (h2 : f ≤ 14) (hf : foreignS f x.rd x.rs1 x.rs2 x.imm x.csr x.aq x.rl = false) (hu : f = 5 → x.imm % 4096 = 0) (ws : Nat → List UInt8) (hw : ∀ j, j < (kdL f).length → ws j = wK ((kdL f).getD j .rd) x) :
    preR (kdL f) ws ⟨x.op, 0, 0, 0, 0, 0, x.aq, x.rl⟩ (kdL f).length = .ok (x, false) := by
  obtain ⟨op, rd, rs1, rs2, imm, csr, aq, rl⟩ := x
  obtain ⟨hrd, hrs1, hrs2, hcsr⟩ := hr
  simp only at hrd hrs1 hrs2 hcsr hi hf hu hw ⊢
  have f1 := (name_plain hrd).2.2
  have f2 := (name_plain hrs1).2.2
  have f3 := (name_plain hrs2).2.2
  have n1 := numR_itoa imm (by omega) (by omega)
  have n2 := numR_itoa csr (by omega) (by omega)
  have n3 := numR_itoa rs1 (by omega) (by omega)
  have e1 : ((rd.toNat : Nat) : Int) = rd := Int.toNat_of_nonneg hrd.1
  have e2 : ((rs1.toNat : Nat) : Int) = rs1 := Int.toNat_of_nonneg hrs1.1
  have e3 : ((rs2.toNat : Nat) : Int) = rs2 := Int.toNat_of_nonneg hrs2.1
  have c1 : 0 ≤ csr ∧ csr ≤ 4095 := by omega
  have c2 : 0 ≤ rs1 ∧ rs1 ≤ 31 := by omega
  obtain ⟨z1, z2, z3, z4, z5, z6⟩ := lack_all hf
  have : f = 1 ∨ f = 2 ∨ f = 3 ∨ f = 4 ∨ f = 5 ∨ f = 6 ∨ f = 7 ∨ f = 8 ∨ f = 9 ∨ f = 10 ∨ f = 11 ∨ f = 12 ∨ f = 13 ∨ f = 14 := by omega
  rcases this with rfl | rfl | rfl | rfl | rfl | rfl | rfl | rfl | rfl | rfl | rfl | rfl | rfl | rfl
  · have y4 := z4 (by decide +kernel)
    have y6 := z6 (by decide +kernel)
    have w0 : ws 0 = Rg.nameR rd := hw 0 (by decide)
    have w1 : ws 1 = Rg.nameR rs1 := hw 1 (by decide)
    have w2 : ws 2 = Rg.nameR rs2 := hw 2 (by decide)
    simp only [kdL, List.length_cons, List.length_nil, Nat.zero_add, Nat.reduceAdd, preR, List.getD_cons_zero, List.getD_cons_succ, rstep, w0, w1, w2, f1, e1, f2, e2, f3, e3]
    rw [y4, y6]
  · have y3 := z3 (by decide +kernel)
    have y4 := z4 (by decide +kernel)
    have w0 : ws 0 = Rg.nameR rd := hw 0 (by decide)
    have w1 : ws 1 = Rg.nameR rs1 := hw 1 (by decide)
    have w2 : ws 2 = Lib.itoa imm := hw 2 (by decide)
    simp only [kdL, List.length_cons, List.length_nil, Nat.zero_add, Nat.reduceAdd, preR, List.getD_cons_zero, List.getD_cons_succ, rstep, w0, w1, w2, f1, e1, f2, e2, n1]
    rw [y3, y4]
  · have y1 := z1 (by decide +kernel)
    have y4 := z4 (by decide +kernel)
    have w0 : ws 0 = Rg.nameR rs2 := hw 0 (by decide)
    have w1 : ws 1 = Rg.nameR rs1 := hw 1 (by decide)
    have w2 : ws 2 = Lib.itoa imm := hw 2 (by decide)
    simp only [kdL, List.length_cons, List.length_nil, Nat.zero_add, Nat.reduceAdd, preR, List.getD_cons_zero, List.getD_cons_succ, rstep, w0, w1, w2, f2, e2, f3, e3, n1]
    rw [y1, y4]
  · have y1 := z1 (by decide +kernel)
    have y4 := z4 (by decide +kernel)
    have w0 : ws 0 = Rg.nameR rs1 := hw 0 (by decide)
    have w1 : ws 1 = Rg.nameR rs2 := hw 1 (by decide)
    have w2 : ws 2 = Lib.itoa imm := hw 2 (by decide)
    simp only [kdL, List.length_cons, List.length_nil, Nat.zero_add, Nat.reduceAdd, preR, List.getD_cons_zero, List.getD_cons_succ, rstep, w0, w1, w2, f2, e2, f3, e3, n1]
    rw [y1, y4]
  · have y2 := z2 (by decide +kernel)
    have y3 := z3 (by decide +kernel)
    have y4 := z4 (by decide +kernel)
    have w0 : ws 0 = Rg.nameR rd := hw 0 (by decide)
    have w1 : ws 1 = Lib.itoa (imm.tdiv 4096) := hw 1 (by decide)
    have hq := hu rfl
    obtain ⟨q, rfl⟩ : ∃ q, imm = q * 4096 := ⟨imm / 4096, by omega⟩
    have hq2 : (q * 4096).tdiv 4096 = q := Int.mul_tdiv_cancel q (by decide)
    rw [hq2] at w1
    have n4 := numR_itoa q (by omega) (by omega)
    have c3 : -524288 ≤ q ∧ q ≤ 524287 := by omega
    simp only [kdL, List.length_cons, List.length_nil, Nat.zero_add, Nat.reduceAdd, preR, List.getD_cons_zero, List.getD_cons_succ, rstep, w0, w1, f1, e1, n4, c3, and_self, if_true]
    rw [y2, y3, y4]
  · have y2 := z2 (by decide +kernel)
    have y3 := z3 (by decide +kernel)
    have y4 := z4 (by decide +kernel)
    have w0 : ws 0 = Rg.nameR rd := hw 0 (by decide)
    have w1 : ws 1 = Lib.itoa imm := hw 1 (by decide)
    simp only [kdL, List.length_cons, List.length_nil, Nat.zero_add, Nat.reduceAdd, preR, List.getD_cons_zero, List.getD_cons_succ, rstep, w0, w1, f1, e1, n1]
    rw [y2, y3, y4]
  · have y3 := z3 (by decide +kernel)
    have y4 := z4 (by decide +kernel)
    have w0 : ws 0 = Rg.nameR rd := hw 0 (by decide)
    have w1 : ws 1 = Rg.nameR rs1 := hw 1 (by decide)
    have w2 : ws 2 = Lib.itoa imm := hw 2 (by decide)
    simp only [kdL, List.length_cons, List.length_nil, Nat.zero_add, Nat.reduceAdd, preR, List.getD_cons_zero, List.getD_cons_succ, rstep, w0, w1, w2, f1, e1, f2, e2, n1]
    rw [y3, y4]
  · have y3 := z3 (by decide +kernel)
    have y4 := z4 (by decide +kernel)
    have w0 : ws 0 = Rg.nameR rd := hw 0 (by decide)
    have w1 : ws 1 = Rg.nameR rs1 := hw 1 (by decide)
    have w2 : ws 2 = Lib.itoa imm := hw 2 (by decide)
    simp only [kdL, List.length_cons, List.length_nil, Nat.zero_add, Nat.reduceAdd, preR, List.getD_cons_zero, List.getD_cons_succ, rstep, w0, w1, w2, f1, e1, f2, e2, n1]
    rw [y3, y4]
  · have y3 := z3 (by decide +kernel)
    have y6 := z6 (by decide +kernel)
    have w0 : ws 0 = Rg.nameR rd := hw 0 (by decide)
    have w1 : ws 1 = Lib.itoa csr := hw 1 (by decide)
    have w2 : ws 2 = Rg.nameR rs1 := hw 2 (by decide)
    simp only [kdL, List.length_cons, List.length_nil, Nat.zero_add, Nat.reduceAdd, preR, List.getD_cons_zero, List.getD_cons_succ, rstep, w0, w1, w2, f1, e1, f2, e2, n2, c1, and_self, if_true]
    rw [y3, y6]
  · have y3 := z3 (by decide +kernel)
    have y6 := z6 (by decide +kernel)
    have w0 : ws 0 = Rg.nameR rd := hw 0 (by decide)
    have w1 : ws 1 = Lib.itoa csr := hw 1 (by decide)
    have w2 : ws 2 = Lib.itoa rs1 := hw 2 (by decide)
    simp only [kdL, List.length_cons, List.length_nil, Nat.zero_add, Nat.reduceAdd, preR, List.getD_cons_zero, List.getD_cons_succ, rstep, w0, w1, w2, f1, e1, n2, c1, and_self, if_true, n3, c2]
    rw [y3, y6]
  · have y4 := z4 (by decide +kernel)
    have y6 := z6 (by decide +kernel)
    have w0 : ws 0 = Rg.nameR rd := hw 0 (by decide)
    have w1 : ws 1 = Rg.nameR rs2 := hw 1 (by decide)
    have w2 : ws 2 = Rg.nameR rs1 := hw 2 (by decide)
    simp only [kdL, List.length_cons, List.length_nil, Nat.zero_add, Nat.reduceAdd, preR, List.getD_cons_zero, List.getD_cons_succ, rstep, w0, w1, w2, f1, e1, f2, e2, f3, e3]
    rw [y4, y6]
  · have y3 := z3 (by decide +kernel)
    have y4 := z4 (by decide +kernel)
    have y6 := z6 (by decide +kernel)
    have w0 : ws 0 = Rg.nameR rd := hw 0 (by decide)
    have w1 : ws 1 = Rg.nameR rs1 := hw 1 (by decide)
    simp only [kdL, List.length_cons, List.length_nil, Nat.zero_add, Nat.reduceAdd, preR, List.getD_cons_zero, List.getD_cons_succ, rstep, w0, w1, f1, e1, f2, e2]
    rw [y3, y4, y6]
  · have y1 := z1 (by decide +kernel)
    have y2 := z2 (by decide +kernel)
    have y3 := z3 (by decide +kernel)
    have y4 := z4 (by decide +kernel)
    have y6 := z6 (by decide +kernel)
    simp only [kdL, List.length_nil, preR]
    rw [y1, y2, y3, y4, y6]
  · have y1 := z1 (by decide +kernel)
    have y4 := z4 (by decide +kernel)
    have y6 := z6 (by decide +kernel)
    have w0 : ws 0 = Rg.nameR rs1 := hw 0 (by decide)
    have w1 : ws 1 = Rg.nameR rs2 := hw 1 (by decide)
    simp only [kdL, List.length_cons, List.length_nil, Nat.zero_add, Nat.reduceAdd, preR, List.getD_cons_zero, List.getD_cons_succ, rstep, w0, w1, f2, e2, f3, e3]
    rw [y1, y4, y6]
theorem back_text (x : Fl) (hc : checkF x = 0) : refE (textS x.op x.rd x.rs1 x.rs2 x.imm x.csr x.aq x.rl).data.toList = .ok x := by
  have hc' : checkS x.op x.rd x.rs1 x.rs2 x.imm x.csr x.aq x.rl = 0 := hc
  obtain ⟨⟨o1, o2⟩, hfo, ⟨h1, h2, h3, h4, h5⟩, him⟩ := check_ok hc'
  have hR : RegsIn x := ⟨h1, h2, h3, ⟨h4, h5⟩⟩
  have hi := (check_imm hc').1
  have hfit : FitI x.rd x.rs1 x.rs2 x.imm x.csr := by constructor <;> (unfold Fit; omega)
  obtain ⟨n, hn⟩ : ∃ n : Nat, x.op = ((n + 1 : Nat) : Int) := ⟨x.op.toNat - 1, by omega⟩
  have hnl : n < 98 := by omega
  have hfle := fmt_le x.op
  have hfne : fmtN x.op ≠ 0 := fun e => (fmt_zero x.op).1 e ⟨o1, o2⟩
  have hname : (nameB x.op ++ ordB x.aq x.rl).data.toList = Tab.nmL (n + 1) ++ sufL (kOf x.aq x.rl) := by
    rw [ByteArray.data_append, Array.toList_append, ord_suf]
    unfold nameB
    rw [if_pos ⟨o1, o2⟩, hn]
    rfl
  have hk4 : kOf x.aq x.rl < 4 := by cases x.aq <;> cases x.rl <;> decide
  have hok : ordOk (n + 1) (kOf x.aq x.rl) = true := by
    by_cases hl : lacksB (fmtN x.op) 16 = true
    · obtain ⟨-, -, -, -, z5, -⟩ := lack_all hfo
      obtain ⟨a, b⟩ := z5 hl
      rw [a, b]
      rfl
    · have hl' : lacksB (fmtN x.op) 16 = false := by simpa using hl
      rw [hn] at hl'
      have := ord_has ⟨n, hnl⟩ hl'
      unfold ordOk
      simp only at this
      rw [this]
      simp
  have hnm := nameL_own ⟨n, hnl⟩ ⟨kOf x.aq x.rl, hk4⟩ hok
  simp only at hnm
  have hbytes : (textS x.op x.rd x.rs1 x.rs2 x.imm x.csr x.aq x.rl).data.toList = (Tab.nmL (n + 1) ++ sufL (kOf x.aq x.rl)) ++ ((kdL (fmtN x.op)).map fun k => wK k x).flatMap fun t => 32 :: t := by
    unfold textS
    rw [lineK_bytes, hname]
    congr 1
    simp only [List.flatMap_map]
    rfl
  have hsp : splF (textS x.op x.rd x.rs1 x.rs2 x.imm x.csr x.aq x.rl).data.toList = (Tab.nmL (n + 1) ++ sufL (kOf x.aq x.rl)) :: (kdL (fmtN x.op)).map fun k => wK k x := by
    rw [hbytes]
    refine split_line _ _ (fun c hc => ?_) (fun t ht => ?_)
    · rcases List.mem_append.1 hc with h | h
      · exact nm_plain ⟨n + 1, by omega⟩ c h
      · exact suf_plain ⟨_, hk4⟩ c h
    · simp only [List.mem_map] at ht
      obtain ⟨k, -, rfl⟩ := ht
      exact (wK_plain k x hR).1
  have hlen : (textS x.op x.rd x.rs1 x.rs2 x.imm x.csr x.aq x.rl).data.toList.length ≤ 120 := text_small6 hfit
  have hne : (Tab.nmL (n + 1) ++ sufL (kOf x.aq x.rl)) ≠ [] := by
    intro h
    exact nm_some ⟨n, hnl⟩ (List.append_eq_nil_iff.1 h).1
  unfold refE
  rw [if_neg (by omega), if_neg (by
    intro h
    have h0 := List.length_eq_zero_iff.1 h
    rw [hbytes] at h0
    exact hne (List.append_eq_nil_iff.1 h0).1), hsp, if_neg (by
    intro h
    rcases List.mem_cons.1 h with h | h
    · exact hne h.symm
    · simp only [List.mem_map] at h
      obtain ⟨k, -, hk⟩ := h
      exact (wK_plain k x hR).2 hk)]
  rw [show ((Tab.nmL (n + 1) ++ sufL (kOf x.aq x.rl)) :: (kdL (fmtN x.op)).map fun k => wK k x).getD 0 [] = Tab.nmL (n + 1) ++ sufL (kOf x.aq x.rl) from rfl, hnm]
  simp only
  have hop : opF (n + 1) (kOf x.aq x.rl) = ⟨x.op, 0, 0, 0, 0, 0, x.aq, x.rl⟩ := by
    rw [hn]
    unfold opF
    cases x.aq <;> cases x.rl <;> rfl
  rw [hop, ← hn, if_neg (by simp)]
  have hb := back_pre x hR hi (fmtN x.op) (by omega) hfle hfo (fun e => by
    rw [e] at him
    have := up_low (layD ((5 : Nat) : Int) x.imm)
    rw [← him]
    exact this) (restW ((Tab.nmL (n + 1) ++ sufL (kOf x.aq x.rl)) :: (kdL (fmtN x.op)).map fun k => wK k x)) (fun j hj => by
    unfold restW
    simp [List.getD, hj])
  rw [hb]
  unfold finR
  simp only [Bool.false_eq_true, if_false, hc, if_true]
end Go.Proofs.YthehcplogkgkeaaGreatDoor
set_option maxRecDepth 4000
namespace Go.Proofs.YthehcplogkgkeaaGreatDoor
open Go.ChangeShapes Go.WideShapes Go.ChangeAt Go.RowKit Wd Num

theorem spn_more : ∀ {w r : List UInt8}, (∀ c ∈ w, c ≠ 10) → Wdn.splF (w ++ 10 :: r) = w :: Wdn.splF r
  | [], r, _ => Wdn.splF_sp r
  | c :: w, r, h => by
    have h1 := spn_more (w := w) (r := r) (fun x hx => h x (by simp [hx]))
    rw [List.cons_append]
    exact Wdn.splF_ns (h c (by simp)) h1
theorem nm_one : ∀ n : Fin 99, ∀ c ∈ Tab.nmL n.val, c ≠ 10 := by decide +kernel
theorem suf_one : ∀ k : Fin 4, ∀ c ∈ sufL k.val, c ≠ 10 := by decide +kernel
theorem rg_one : ∀ i : Fin 32, ∀ c ∈ Rg.nmR i.val, c ≠ 10 := by decide +kernel
theorem nm_first : ∀ n : Fin 98, ((Tab.nmL (n.val + 1)).head? == some 35) = false := by decide +kernel
theorem itoa_one (n : Int) : ∀ c ∈ Lib.itoa n, c ≠ 10 := by
  have hd : ∀ u : Nat, ∀ c ∈ Lib.decDigits u, c ≠ 10 := by
    intro u c hc h
    have := List.all_eq_true.1 (dec_all u) c hc
    subst h
    simp [isDig] at this
  intro c hc
  unfold Lib.itoa at hc
  split at hc
  · rcases List.mem_cons.1 hc with rfl | h
    · decide
    · exact hd _ c h
  · exact hd _ c hc
theorem nameR_one {i : Int} (h : 0 ≤ i ∧ i < 32) : ∀ c ∈ Rg.nameR i, c ≠ 10 := by
  rw [nameR_in h.1 h.2]
  exact rg_one ⟨i.toNat, by omega⟩
theorem wK_one (k : Kd) (x : Fl) (h : RegsIn x) : ∀ c ∈ wK k x, c ≠ 10 := by
  cases k
  · exact nameR_one h.rd
  · exact nameR_one h.rs1
  · exact nameR_one h.rs2
  · exact itoa_one _
  · exact itoa_one _
  · exact itoa_one _
  · exact itoa_one _
theorem text_one (x : Fl) (hc : checkF x = 0) : (∀ c ∈ (textS x.op x.rd x.rs1 x.rs2 x.imm x.csr x.aq x.rl).data.toList, c ≠ 10) ∧ skipB (textS x.op x.rd x.rs1 x.rs2 x.imm x.csr x.aq x.rl).data.toList = false := by
  have hc' : checkS x.op x.rd x.rs1 x.rs2 x.imm x.csr x.aq x.rl = 0 := hc
  obtain ⟨⟨o1, o2⟩, -, ⟨h1, h2, h3, h4, h5⟩, -⟩ := check_ok hc'
  have hR : RegsIn x := ⟨h1, h2, h3, ⟨h4, h5⟩⟩
  obtain ⟨n, hn⟩ : ∃ n : Nat, x.op = ((n + 1 : Nat) : Int) := ⟨x.op.toNat - 1, by omega⟩
  have hnl : n < 98 := by omega
  have hname : (nameB x.op ++ ordB x.aq x.rl).data.toList = Tab.nmL (n + 1) ++ sufL (kOf x.aq x.rl) := by
    rw [ByteArray.data_append, Array.toList_append, ord_suf]
    unfold nameB
    rw [if_pos ⟨o1, o2⟩, hn]
    rfl
  have hk4 : kOf x.aq x.rl < 4 := by cases x.aq <;> cases x.rl <;> decide
  have hbytes : (textS x.op x.rd x.rs1 x.rs2 x.imm x.csr x.aq x.rl).data.toList = (Tab.nmL (n + 1) ++ sufL (kOf x.aq x.rl)) ++ ((kdL (fmtN x.op)).map fun k => wK k x).flatMap fun t => 32 :: t := by
    unfold textS
    rw [lineK_bytes, hname]
    congr 1
    simp only [List.flatMap_map]
    rfl
  rw [hbytes]
  constructor
  · intro c hc
    rcases List.mem_append.1 hc with h | h
    · rcases List.mem_append.1 h with h | h
      · exact nm_one ⟨n + 1, by omega⟩ c h
      · exact suf_one ⟨_, hk4⟩ c h
    · simp only [List.mem_flatMap, List.mem_map] at h
      obtain ⟨t, ⟨k, -, rfl⟩, ht⟩ := h
      rcases List.mem_cons.1 ht with rfl | ht
      · decide
      · exact wK_one k x hR c ht
  · have h1 := nm_some ⟨n, hnl⟩
    have h2 := nm_first ⟨n, hnl⟩
    simp only at h1 h2
    unfold skipB
    cases hm : Tab.nmL (n + 1) with
    | nil => exact absurd hm h1
    | cons c r =>
      rw [hm] at h2
      simpa using h2
/-- Is a word an instruction? -/
def keepB (X : Nat) : Bool := (decN X).isSome
theorem keep_line (X : Nat) (hX : X < 4294967296) (h : keepB X = true) : (∀ c ∈ (lineW X).data.toList, c ≠ 10) ∧ skipB (lineW X).data.toList = false ∧ ∃ x, refE (lineW X).data.toList = .ok x ∧ wrd x = (X : Nat) := by
  rcases line_cases X hX with ⟨hd, -⟩ | ⟨x, -, hc, -, he, hl⟩
  · unfold decV at hd
    unfold keepB at h
    cases hn : decN X with
    | none => rw [hn] at h; cases h
    | some k => rw [hn] at hd; simp at hd
  · rw [hl]
    have := text_one x hc
    exact ⟨this.1, this.2, x, back_text x hc, he⟩
theorem spn_list : ∀ F : List Nat, (∀ X ∈ F, X < 4294967296) → (∀ X ∈ F, keepB X = true) → Wdn.splF (listL F) = (F.map fun X => (lineW X).data.toList) ++ [[]]
  | [], _, _ => rfl
  | X :: F, h1, h2 => by
    have ih := spn_list F (fun Y hY => h1 Y (by simp [hY])) (fun Y hY => h2 Y (by simp [hY]))
    have e : listL (X :: F) = (lineW X).data.toList ++ 10 :: listL F := by simp [listL]
    rw [e, spn_more (keep_line X (h1 X (by simp)) (h2 X (by simp))).1, ih]
    rfl
theorem lns_list (F : List Nat) (h1 : ∀ X ∈ F, X < 4294967296) (h2 : ∀ X ∈ F, keepB X = true) : Wdn.lns (listL F) = F.map fun X => (lineW X).data.toList := by
  rw [Wdn.lns_of (spn_list F h1 h2), if_pos rfl]
theorem back_list (F : List Nat) (h1 : ∀ X ∈ F, X < 4294967296) (h2 : ∀ X ∈ F, keepB X = true) : preW (Wdn.lns (listL F)) (Wdn.lns (listL F)).length = .ok (F.map fun X => ((X : Nat) : Int)) := by
  rw [lns_list F h1 h2, List.length_map]
  have key : ∀ k, k ≤ F.length → preW (F.map fun X => (lineW X).data.toList) k = .ok ((F.take k).map fun X => ((X : Nat) : Int)) := by
    intro k
    induction k with
    | zero => intro _; rfl
    | succ k ih =>
      intro hk
      have hkl : k < F.length := by omega
      have hm : F[k] ∈ F := List.getElem_mem _
      obtain ⟨-, hs, x, hx, hw⟩ := keep_line F[k] (h1 _ hm) (h2 _ hm)
      have hg : (F.map fun X => (lineW X).data.toList).getD k [] = (lineW F[k]).data.toList := by simp [List.getD, hkl]
      rw [preW_add (ih (by omega)) (by rw [hg]; exact hs) (by rw [hg]; exact hx), hw, List.take_succ_eq_append_getElem hkl, List.map_append]
      rfl
  rw [key F.length (Nat.le_refl _), List.take_length]
end Go.Proofs.YthehcplogkgkeaaGreatDoor
