/-
  Plain: a job's step keeps what always holds. The law TopSerial: a job's step with a closure that asks who holds what; a job that begins anew; answers compared. The law TopSerial: what stands beside the locks and the jobs; the closure.
-/
import Derived.Test.YtjeolfcefeglpabGreatXbr
import Derived.Test.YtjeolfcefeglpabGreatXbi
namespace Go.Proofs.YtjeolfcefeglpabGreat.Lk

def setJ (J : Nat → JS) (i : Nat) (s : JS) : Nat → JS := fun k => if k = i then s else J k
theorem setJ_same (J : Nat → JS) (i : Nat) (s : JS) : setJ J i s i = s := by simp [setJ]
theorem setJ_other (J : Nat → JS) {i k : Nat} (s : JS) (h : k ≠ i) : setJ J i s k = J k := by simp [setJ, h]
theorem Inv.set {R R' : Int → List Int} {n : Nat} {J : Nat → JS} (h : Inv R n J) (i : Nat) (s : JS) (ok' : Ok R' n) (hx : s.xs = (J i).xs) (ht : s.t ≤ s.xs.length) (hg : s.g ≤ s.xs.length) (hdt : s.d = true → s.t = s.xs.length) (hdg : s.d = false → s.g = 0)
    (hold : ∀ j, j < s.t - s.g → heads R' (s.xs.getD j 0) (i : Int)) (mem : ∀ L, (i : Int) ∈ R' L → (∃ j, j < s.t - s.g ∧ s.xs.getD j 0 = L) ∨ (s.t < s.xs.length ∧ s.xs.getD s.t 0 = L))
    (hold2 : ∀ k : Nat, k < 8 → k ≠ i → ∀ L, heads R L (k : Int) → heads R' L (k : Int)) (mem2 : ∀ k : Nat, k < 8 → k ≠ i → ∀ L, (k : Int) ∈ R' L → (k : Int) ∈ R L) : Inv R' n (setJ J i s) := by
  refine ⟨ok', fun k hk => ?_, fun k hk => ?_, fun k hk => ?_, fun k hk => ?_, fun k hk => ?_, fun k hk => ?_, fun k hk => ?_, fun k hk => ?_⟩
  all_goals by_cases e : k = i
  · subst e; rw [setJ_same, hx]; exact h.rise k hk
  · rw [setJ_other J s e]; exact h.rise k hk
  · subst e; rw [setJ_same, hx]; exact h.rng k hk
  · rw [setJ_other J s e]; exact h.rng k hk
  · subst e; rw [setJ_same]; exact ht
  · rw [setJ_other J s e]; exact h.t k hk
  · subst e; rw [setJ_same]; exact hg
  · rw [setJ_other J s e]; exact h.g k hk
  · subst e; rw [setJ_same]; exact hdt
  · rw [setJ_other J s e]; exact h.dt k hk
  · subst e; rw [setJ_same]; exact hdg
  · rw [setJ_other J s e]; exact h.dg k hk
  · subst e; rw [setJ_same]; exact hold
  · rw [setJ_other J s e]; exact fun j hj => hold2 k hk e _ (h.hold k hk j hj)
  · subst e; rw [setJ_same]; exact mem
  · rw [setJ_other J s e]; exact fun L hL => h.mem k hk L (mem2 k hk e L hL)
theorem heads_getD {R : Int → List Int} {L x : Int} (h : R L ≠ []) (e : (R L).getD 0 0 = x) : heads R L x := by
  unfold heads
  cases hr : R L with
  | nil => exact absurd hr h
  | cons a l => rw [hr] at e; simpa using e
theorem getD_heads {R : Int → List Int} {L x : Int} (h : heads R L x) : R L ≠ [] ∧ (R L).getD 0 0 = x := by
  unfold heads at h
  cases hr : R L with
  | nil => rw [hr] at h; cases h
  | cons a l => rw [hr] at h; exact ⟨by simp, by simpa using h⟩
theorem getD_mem {xs : List Int} {j : Nat} (h : j < xs.length) : xs.getD j 0 ∈ xs := by
  rw [List.getD, List.getElem?_eq_getElem h]
  exact List.getElem_mem h
theorem rise_ne {xs : List Int} (h : xs.Pairwise (· < ·)) {i j : Nat} (hi : i < xs.length) (hj : j < xs.length) (hij : i ≠ j) : xs.getD i 0 ≠ xs.getD j 0 := by
  rcases Nat.lt_or_gt_of_ne hij with c | c
  · have := rise_lt h c hj; omega
  · have := rise_lt h c hi; omega
theorem Inv.step {R : Int → List Int} {n : Nat} {J : Nat → JS} (h : Inv R n J) {i : Nat} (hi : i < 8) : Inv (stR R n (i : Int) (J i)) n (setJ J i (stJ R n (i : Int) (J i))) := by
  have same : setJ J i (J i) = J := by
    funext k
    by_cases e : k = i
    · subst e; exact setJ_same J k (J k)
    · exact setJ_other J _ e
  cases ho : (J i).over
  · by_cases ht : (J i).t < (J i).xs.length
    · -- it takes
      have hd : (J i).d = false := by
        cases c : (J i).d
        · rfl
        · have := h.dt i hi c; omega
      have hg := h.dg i hi hd
      have e1 : stR R n (i : Int) (J i) = take R n (i : Int) ((J i).xs.getD (J i).t 0) := by unfold stR; simp [ho, ht]
      have e2 : stJ R n (i : Int) (J i) = if takeT R n (i : Int) ((J i).xs.getD (J i).t 0) then ⟨(J i).xs, (J i).t + 1, (J i).g, (J i).d⟩ else J i := by unfold stJ; simp [ho, ht]
      rw [e1, e2]
      have hr := h.rng i hi _ (getD_mem ht)
      have hrise := h.rise i hi
      have hhold := h.hold i hi
      have hmem := h.mem i hi
      generalize hy : (J i).xs.getD (J i).t 0 = y at *
      have hhas : has (i : Int) y n = true := has_iff.2 ⟨by omega, by omega, hr.1, hr.2⟩
      have hlt : ∀ j, j < (J i).t - (J i).g → (J i).xs.getD j 0 ≠ y := fun j hj => by
        rw [← hy]; exact rise_ne hrise (by omega) ht (by omega)
      cases hin : (R y).any (fun z => (i : Int) == z)
      · have hni : (i : Int) ∉ R y := fun c => by rw [(any_mem _ _).2 c] at hin; cases hin
        have et : take R n (i : Int) y = upd R y (R y ++ [(i : Int)]) := by unfold take; rw [hhas, hin]; simp
        have hok := ok_take h.ok hhas hin
        have hh2 : ∀ k : Nat, k < 8 → k ≠ i → ∀ L, heads R L (k : Int) → heads (upd R y (R y ++ [(i : Int)])) L (k : Int) := fun k _ _ L hk => by
          by_cases c : L = y
          · subst c
            unfold heads at hk ⊢
            rw [upd_same, List.head?_append, hk]
            rfl
          · unfold heads; rw [upd_other R _ c]; exact hk
        have hm2 : ∀ k : Nat, k < 8 → k ≠ i → ∀ L, (k : Int) ∈ upd R y (R y ++ [(i : Int)]) L → (k : Int) ∈ R L := fun k _ hne L hk => by
          by_cases c : L = y
          · subst c
            rw [upd_same, List.mem_append] at hk
            rcases hk with hk | hk
            · exact hk
            · have : (k : Int) = i := by simpa using hk
              omega
          · rwa [upd_other R _ c] at hk
        have hself : ∀ j, j < (J i).t - (J i).g → heads (upd R y (R y ++ [(i : Int)])) ((J i).xs.getD j 0) (i : Int) := fun j hj => by
          unfold heads; rw [upd_other R _ (hlt j hj)]; exact hhold j hj
        have hmm : ∀ L, (i : Int) ∈ upd R y (R y ++ [(i : Int)]) L → (∃ j, j < (J i).t - (J i).g ∧ (J i).xs.getD j 0 = L) ∨ L = y := fun L hL => by
          by_cases c : L = y
          · exact .inr c
          · rw [upd_other R _ c] at hL
            rcases hmem L hL with c1 | c1
            · exact .inl c1
            · exact .inr (c1.2 ▸ rfl)
        rw [et]
        by_cases he : R y = []
        · have eT : takeT R n (i : Int) y = true := by unfold takeT; rw [hhas, et, upd_same, he]; simp
          rw [eT, if_pos rfl]
          refine h.set i _ hok rfl (show (J i).t + 1 ≤ (J i).xs.length by omega) (h.g i hi) (fun c => by rw [hd] at c; cases c) (fun _ => hg) (fun j hj => ?_) (fun L hL => ?_) hh2 hm2
          · by_cases c : j < (J i).t - (J i).g
            · exact hself j c
            · have : j = (J i).t := by have : j < (J i).t + 1 - (J i).g := hj; omega
              subst this
              show heads _ ((J i).xs.getD (J i).t 0) _
              rw [hy]
              unfold heads
              rw [upd_same, he]
              rfl
          · rcases hmm L hL with ⟨j, c1, c2⟩ | c
            · exact .inl ⟨j, by show j < (J i).t + 1 - (J i).g; omega, c2⟩
            · exact .inl ⟨(J i).t, by show (J i).t < (J i).t + 1 - (J i).g; omega, by rw [c]; exact hy⟩
        · have eT : takeT R n (i : Int) y = false := by
            unfold takeT
            rw [hhas, et, upd_same, Bool.true_and]
            cases hr2 : R y with
            | nil => exact absurd hr2 he
            | cons a l =>
              have : a ≠ (i : Int) := fun c => hni (by rw [hr2, c]; simp)
              simpa using this
          rw [eT, if_neg (by simp)]
          refine h.set i _ hok rfl (h.t i hi) (h.g i hi) (h.dt i hi) (h.dg i hi) hself (fun L hL => ?_) hh2 hm2
          rcases hmm L hL with c | c
          · exact .inl c
          · exact .inr ⟨ht, by rw [c]; exact hy⟩
      · have et : take R n (i : Int) y = R := by unfold take; rw [hhas, hin]; simp
        rw [et]
        have hiy := (any_mem (i : Int) (R y)).1 hin
        cases hT : takeT R n (i : Int) y
        · rw [if_neg (by simp), same]; exact h
        · rw [if_pos rfl]
          have hhd : heads R y (i : Int) := by
            unfold takeT at hT
            rw [hhas, et, Bool.true_and] at hT
            exact heads_getD (fun c => by rw [c] at hiy; simp at hiy) (by simpa using hT)
          refine h.set i _ h.ok rfl (show (J i).t + 1 ≤ (J i).xs.length by omega) (h.g i hi) (fun c => by rw [hd] at c; cases c) (fun _ => hg) (fun j hj => ?_) (fun L hL => ?_) (fun _ _ _ _ c => c) (fun _ _ _ _ c => c)
          · by_cases c : j < (J i).t - (J i).g
            · exact hhold j c
            · have : j = (J i).t := by have : j < (J i).t + 1 - (J i).g := hj; omega
              subst this
              show heads _ ((J i).xs.getD (J i).t 0) _
              rw [hy]; exact hhd
          · rcases hmem L hL with ⟨j, c1, c2⟩ | c
            · exact .inl ⟨j, by show j < (J i).t + 1 - (J i).g; omega, c2⟩
            · exact .inl ⟨(J i).t, by show (J i).t < (J i).t + 1 - (J i).g; omega, by rw [← c.2]; exact hy⟩
    · have hteq : (J i).t = (J i).xs.length := by have := h.t i hi; omega
      cases hd : (J i).d
      · have e1 : stR R n (i : Int) (J i) = R := by unfold stR; simp [ho, ht, hd]
        have e2 : stJ R n (i : Int) (J i) = ⟨(J i).xs, (J i).t, (J i).g, true⟩ := by unfold stJ; simp [ho, ht, hd]
        rw [e1, e2]
        exact h.set i _ h.ok rfl (h.t i hi) (h.g i hi) (fun _ => hteq) (fun c => by cases c) (h.hold i hi) (h.mem i hi) (fun _ _ _ _ c => c) (fun _ _ _ _ c => c)
      · have hgl : (J i).g < (J i).xs.length := by
          have h1 := h.g i hi
          have h2 : (J i).g ≠ (J i).xs.length := fun e => by unfold JS.over at ho; rw [hd, decide_eq_true e] at ho; cases ho
          omega
        have e1 : stR R n (i : Int) (J i) = drop R (i : Int) ((J i).xs.getD ((J i).xs.length - ((J i).g + 1)) 0) := by unfold stR; simp [ho, ht, hd]
        have e2 : stJ R n (i : Int) (J i) = ⟨(J i).xs, (J i).t, (J i).g + 1, (J i).d⟩ := by unfold stJ; simp [ho, ht, hd]
        rw [e1, e2]
        have hhd := h.hold i hi ((J i).xs.length - ((J i).g + 1)) (by omega)
        have hrise := h.rise i hi
        have hhold := h.hold i hi
        have hmem := h.mem i hi
        generalize hy : (J i).xs.getD ((J i).xs.length - ((J i).g + 1)) 0 = y at *
        obtain ⟨hne, hge⟩ := getD_heads hhd
        have et : drop R (i : Int) y = upd R y (R y).tail := by
          unfold drop dropT
          rw [decide_eq_true hne, hge]
          simp
        rw [et]
        have hdis : ∀ j, j < (J i).t - ((J i).g + 1) → (J i).xs.getD j 0 ≠ y := fun j hj => by
          rw [← hy]; exact rise_ne hrise (by omega) (by omega) (by omega)
        refine h.set i _ (ok_tail h.ok hne) rfl (h.t i hi) (show (J i).g + 1 ≤ (J i).xs.length by omega) (fun _ => hteq) (fun c => by rw [hd] at c; cases c) (fun j hj => ?_) (fun L hL => ?_) (fun k _ hk L hL => ?_) (fun k _ hk L hL => ?_)
        · have hj' : j < (J i).t - ((J i).g + 1) := hj
          unfold heads
          rw [upd_other R _ (hdis j hj')]
          exact hhold j (by omega)
        · by_cases c : L = y
          · subst c
            rw [upd_same] at hL
            have hnd := h.ok.nod L
            unfold heads at hhd
            cases hr : R L with
            | nil => rw [hr] at hL; simp at hL
            | cons a l =>
              rw [hr] at hL hnd hhd
              have ea : a = (i : Int) := by simpa using hhd
              rw [List.nodup_cons] at hnd
              exact absurd (ea ▸ hL) hnd.1
          · rw [upd_other R _ c] at hL
            rcases hmem L hL with ⟨j, c1, c2⟩ | c1
            · refine .inl ⟨j, ?_, c2⟩
              show j < (J i).t - ((J i).g + 1)
              have : j ≠ (J i).xs.length - ((J i).g + 1) := fun e => c (by rw [← c2, e, hy])
              omega
            · omega
        · by_cases c : L = y
          · subst c
            unfold heads at hhd hL
            rw [hhd] at hL
            have : (i : Int) = k := by simpa using hL
            omega
          · unfold heads; rw [upd_other R _ c]; exact hL
        · by_cases c : L = y
          · subst c; rw [upd_same] at hL; exact List.mem_of_mem_tail hL
          · rwa [upd_other R _ c] at hL
  · have e1 : stR R n (i : Int) (J i) = R := by unfold stR; simp [ho]
    have e2 : stJ R n (i : Int) (J i) = J i := by unfold stJ; simp [ho]
    rw [e1, e2, same]
    exact h
end Go.Proofs.YtjeolfcefeglpabGreat.Lk
set_option maxRecDepth 20000
namespace Go.Proofs.YtjeolfcefeglpabGreat
open Go.ChangeShapes Go.WideShapes Go.ChangeAt Go.RowKit Wd

section
variable {Z : Nat → Prop}
theorem gstep2_c (b off : Nat) (p : Option Addr) (cap base lp mb n : Nat) (R : Int → List Int) (s : Lk.JS) (who : Int) (w : World) (F : FuncId) (cs : Array Value) (E0 E1 : World → Prop)
    (hL : LkAt Z w base lp mb n R) (hj : JobAt w b off (.slice p s.xs.length cap) s.t s.g s.d) (hs : Lk.JvT s) (hz : Z b) (hbl : b ≠ lp) (hbb : base ≤ b) (hv : Vw w p (iV s.xs)) (hp : p = none ∧ cap = 0 ∨ ∃ b off, p = some ⟨b, off, none⟩) (hpb : ∀ pb po, p = some ⟨pb, po, none⟩ → pb ≠ b)
    (hE : E0 w) (h0 : ∀ u v, E0 u → JobOnly Z b off u v → E0 v) (h1 : ∀ u v, E1 u → Below u.heap.size u v → E1 v) (hEn : Go.Proofs.Enters Tryz.prog F)
    (hA : Lk.stDT s = true → ∀ W, E0 W → LkAt Z W base lp mb n R → JobAt W b off (.slice p s.xs.length cap) s.t s.g true → Below base w W →
      Calls Tryz.prog F cs W fun e w' => e = .returned (.tuple #[]) ∧ E1 w' ∧ LkAt Z w' base lp mb n R ∧ JobAt w' b off (.slice p s.xs.length cap) s.t s.g true ∧ Below base w w') :
    Calls Tryz.prog 11 #[.pointer (some ⟨b, off, none⟩), .pointer (some ⟨lp, 0, none⟩), .int .i64 who, .func (.func F) #[] cs] w fun e w' =>
      ∃ r, e = .returned (.int .i64 r) ∧ GsQ Z b off p cap base lp mb n w (Lk.stR R n who s) (Lk.stJ R n who s) (if Lk.stDT s then E1 else E0) w' := by
  have hbase : base ≤ w.heap.size := by have := hL.b0; have := hL.lt; omega
  have hjs := hs.ok
  have hd0 : (s.d && ((s.g : Int) == ((s.xs.length : Nat) : Int))) = s.over := by unfold Lk.JS.over; rw [int_beq]
  have kept : ∀ {u v : World}, LkAt Z u base lp mb n R → Below u.heap.size u v → JobOnly Z b off u v := fun h hb => JobOnly.of_kept (fun k hk => hb.block k (h.flt k hk).1) hz
  cases ho : s.over
  · rw [ho] at hd0
    by_cases ht : s.t < s.xs.length
    · have e1 : Lk.stR R n who s = Lk.take R n who (s.xs.getD s.t 0) := by unfold Lk.stR; simp [ho, ht]
      have e4 : Lk.stDT s = false := by unfold Lk.stDT; simp [ht]
      rw [e1, e4]
      refine (step_take b off p _ cap s.t s.g who s.d _ _ (fun r w' => GsQ Z b off p cap base lp mb n w (Lk.take R n who (s.xs.getD s.t 0)) (Lk.stJ R n who s) E0 w') w hj hd0 (by omega) fun W2 hb2 => ?_)
      have hl2 := hL.low hb2
      refine (jtake_c b off p cap s.xs s.t s.g who s.d base lp mb n R W2 (hj.low hb2) hz hbl hbb (hv.low hb2) ht (hjs.rng _ ht) (by have := hjs.len; omega) hl2).mono ?_
      rintro e w3 ⟨rfl, k1, k2, k3, k4⟩
      refine ⟨_, rfl, k1, (hb2.mono hbase).trans k2, ?_, h0 _ _ (h0 _ _ hE (kept hL hb2)) k3⟩
      unfold Lk.stJ
      simp only [ho, ht, if_true, Bool.false_eq_true, if_false]
      cases hq : Lk.takeT R n who (s.xs.getD s.t 0)
      · rw [hq] at k4; simpa using k4
      · rw [hq] at k4; simpa using k4
    · cases hdd : s.d
      · have e1 : Lk.stR R n who s = R := by unfold Lk.stR; simp [ho, ht, hdd]
        have e3 : Lk.stJ R n who s = ⟨s.xs, s.t, s.g, true⟩ := by unfold Lk.stJ; simp [ho, ht, hdd]
        have e4 : Lk.stDT s = true := by unfold Lk.stDT; simp [ho, ht, hdd]
        rw [e1, e3, e4]
        rw [hdd] at hj
        refine (step_act b off p _ cap s.t s.g who _ _ (fun r w' => GsQ Z b off p cap base lp mb n w R ⟨s.xs, s.t, s.g, true⟩ E1 w') w hj (by omega) fun W2 hb2 => ?_)
        have hl2 := hL.low hb2
        have hj2 := hj.low hb2
        have hl3 := hl2.far (b := b) (i := off + 3) hz hbl (.bool true)
        have hj3 := hj2.did true
        have hb3 : Below base w (W2.setCell ⟨b, off + 3, none⟩ (.bool true)) := (hb2.mono hbase).setCell (p := ⟨b, off + 3, none⟩) hbb (.bool true)
        have he3 := h0 _ _ (h0 _ _ hE (kept hL hb2)) (JobOnly.set (w := W2) (Z := Z) (off + 3) (.inr (.inr rfl)) (.bool true))
        refine (jact_c b off p _ cap s.t s.g false F cs (fun w' => E1 w' ∧ LkAt Z w' base lp mb n R ∧ JobAt w' b off (.slice p s.xs.length cap) s.t s.g true ∧ Below base w w') W2 hj2 (hA e4 _ he3 hl3 hj3 hb3) (fun w' h => h.2.2.1) hEn).mono ?_
        rintro e w5 ⟨rfl, w4, ⟨k1, k2, k3, k4⟩, h2⟩
        exact ⟨_, rfl, k2.low h2, k4.trans (h2.mono (by have := k4.size; omega)), k3.low h2, h1 _ _ k1 h2⟩
      · have hg : s.g < s.xs.length := by
          have h1 := hjs.g
          have h2 : s.g ≠ s.xs.length := fun e => by unfold Lk.JS.over at ho; rw [hdd, decide_eq_true e] at ho; cases ho
          omega
        have e1 : Lk.stR R n who s = Lk.drop R who (s.xs.getD (s.xs.length - (s.g + 1)) 0) := by unfold Lk.stR; simp [ho, ht, hdd]
        have e3 : Lk.stJ R n who s = ⟨s.xs, s.t, s.g + 1, s.d⟩ := by unfold Lk.stJ; simp [ho, ht, hdd]
        have e4 : Lk.stDT s = false := by unfold Lk.stDT; simp [hdd]
        rw [e1, e3, e4]
        rw [hdd] at hj hd0
        obtain ⟨pb, po, rfl, hpl, hcell⟩ := hv.cells (by omega)
        refine (step_give b off _ _ cap s.t s.g who _ _ (fun r w' => GsQ Z b off (some ⟨pb, po, none⟩) cap base lp mb n w (Lk.drop R who (s.xs.getD (s.xs.length - (s.g + 1)) 0)) ⟨s.xs, s.t, s.g + 1, s.d⟩ E0 w') w hj hd0 (by omega) fun W2 hb2 => ?_)
        have hl2 := hL.low hb2
        refine (jgive_c b off pb po cap s.xs s.g s.t who base lp mb n R W2 (hj.low hb2) hz hbl hbb (hpb pb po rfl) (Nat.lt_of_lt_of_le hpl hb2.size) (fun j hj => (hb2.cell (p := ⟨pb, po + j, none⟩) hpl).trans (hcell j hj)) hg (hjs.rng _ (by omega)) (by have := hjs.len; omega) hl2).mono ?_
        rintro e w3 ⟨rfl, k1, k2, k3, k4⟩
        refine ⟨_, rfl, k1, (hb2.mono hbase).trans k2, ?_, h0 _ _ (h0 _ _ hE (kept hL hb2)) k3⟩
        rw [hdd]
        simpa using k4
  · rw [ho] at hd0
    have e1 : Lk.stR R n who s = R := by unfold Lk.stR; simp [ho]
    have e3 : Lk.stJ R n who s = s := by unfold Lk.stJ; simp [ho]
    have e4 : Lk.stDT s = false := by unfold Lk.stDT; simp [ho]
    rw [e1, e3, e4]
    refine (step_over b off p _ cap s.t s.g who s.d _ _ w hj hd0).mono ?_
    rintro e w2 ⟨rfl, hb⟩
    exact ⟨_, rfl, hL.low hb, hb.mono hbase, hj.low hb, h0 _ _ hE (kept hL hb)⟩
end
namespace Lk
/-- A job that holds nothing begins anew. -/
theorem Inv.fresh {R : Int → List Int} {n : Nat} {J : Nat → JS} (h : Inv R n J) {i : Nat} (hi : i < 8) (ht : (J i).t = (J i).xs.length) (hg : (J i).g = (J i).xs.length) {xs : List Int} (hr : xs.Pairwise (· < ·)) (hx : ∀ x ∈ xs, 0 ≤ x ∧ x < (n : Int)) : Inv R n (setJ J i ⟨xs, 0, 0, false⟩) := by
  have hno : ∀ L, (i : Int) ∉ R L := fun L hL => by
    rcases h.mem i hi L hL with ⟨j, hj, -⟩ | ⟨hl, -⟩ <;> omega
  refine ⟨h.ok, fun k hk => ?_, fun k hk => ?_, fun k hk => ?_, fun k hk => ?_, fun k hk => ?_, fun k hk => ?_, fun k hk => ?_, fun k hk => ?_⟩
  all_goals by_cases e : k = i
  · subst e; rw [setJ_same]; exact hr
  · rw [setJ_other J _ e]; exact h.rise k hk
  · subst e; rw [setJ_same]; exact hx
  · rw [setJ_other J _ e]; exact h.rng k hk
  · subst e; rw [setJ_same]; exact Nat.zero_le _
  · rw [setJ_other J _ e]; exact h.t k hk
  · subst e; rw [setJ_same]; exact Nat.zero_le _
  · rw [setJ_other J _ e]; exact h.g k hk
  · subst e; rw [setJ_same]; exact fun h => by cases h
  · rw [setJ_other J _ e]; exact h.dt k hk
  · subst e; rw [setJ_same]; exact fun _ => rfl
  · rw [setJ_other J _ e]; exact h.dg k hk
  · subst e; rw [setJ_same]; exact fun j hj => by simp at hj
  · rw [setJ_other J _ e]; exact h.hold k hk
  · subst e; rw [setJ_same]; exact fun L hL => absurd hL (hno L)
  · rw [setJ_other J _ e]; exact h.mem k hk
/-- While a job does what it is for, it heads all that it needs. -/
theorem Inv.all_mine {R : Int → List Int} {n : Nat} {J : Nat → JS} (h : Inv R n J) {i : Nat} (hi : i < 8) (hd : stDT (J i) = true) : ∀ x ∈ (J i).xs, R x ≠ [] ∧ (R x).getD 0 0 = (i : Int) := by
  intro x hx
  obtain ⟨j, hj, rfl⟩ := List.mem_iff_getElem.1 hx
  unfold stDT at hd
  simp only [Bool.and_eq_true, Bool.not_eq_true', decide_eq_false_iff_not] at hd
  have hdd := h.dg i hi hd.2
  have hl := h.t i hi
  have hh := h.hold i hi j (by omega)
  rw [List.getD, List.getElem?_eq_getElem hj] at hh
  exact getD_heads hh
end Lk
/-- The mail of an answer that has none. -/
def mail0 : Array Value := (anC 0 false).extract 2 42
theorem mail_self (w : World) : (Op.equalIn 9999 64 (.agg mail0) (.agg mail0)).run Tryz.prog w = .ok true w := by kernel_rfl
theorem part_mail (w : World) (d : Int) (g : Bool) : (Go.part 64 (anC d g) 2).run Tryz.prog w = .ok (.agg mail0) w := by kernel_rfl
theorem self_an (w : World) (d : Int) (g : Bool) : (binOp .eql ANT (.agg (anC d g)) (.agg (anC d g))).run Tryz.prog w = .ok (.bool true) w := by
  rw [run_eql_struct]
  have hf : ∃ f1 f2 f3, (Tryz.prog.fieldsOf ANT).toList = [f1, f2, f3] ∧ (f1.name ≠ "_" ∧ f1.offset = 0 ∧ f1.type = 38) ∧ (f2.name ≠ "_" ∧ f2.offset = 1 ∧ f2.type = 4) ∧ (f3.name ≠ "_" ∧ f3.offset = 2 ∧ f3.type = 64) :=
    ⟨_, _, _, rfl, ⟨by decide, rfl, rfl⟩, ⟨by decide, rfl, rfl⟩, ⟨by decide, rfl, rfl⟩⟩
  obtain ⟨f1, f2, f3, hl, ⟨n1, o1, t1⟩, ⟨n2, o2, t2⟩, ⟨n3, o3, t3⟩⟩ := hf
  have hm3 := mail_self w
  rw [run_equalIn_agg w 9999 ANT _ _ Tryz.underlying66 (by kernel_rfl), hl]
  have q1 : (Op.equalIn 9999 38 (.int .u64 d) (.int .u64 d)).run Tryz.prog w = .ok (d == d) w := run_equalIn_int w 9998 38 .u64 .u64 d d Tryz.underlying38
  have q2 : (Op.equalIn 9999 4 (.bool g) (.bool g)).run Tryz.prog w = .ok (g == g) w := run_equalIn_bool' w 9998 4 g g Tryz.underlying4
  have p1 : (Go.part 38 (anC d g) 0).run Tryz.prog w = .ok (.int .u64 d) w := by simp [Go.part, isAgg, run_underlying Tryz.underlying38, anC]
  have p2 : (Go.part 4 (anC d g) 1).run Tryz.prog w = .ok (.bool g) w := by simp [Go.part, isAgg, run_underlying Tryz.underlying4, anC]
  have p3 := part_mail w d g
  simp only [Op.eqFields, if_pos n1, if_pos n2, if_pos n3, Sem.run_bind, o1, o2, o3, t1, t2, t3, p1, Result.andThen_ok, q1]
  simp [p2, p3, q2, hm3]
theorem guard_an : Tryz.prog.eqGuardType Tryz.prog.depth ANT = false := by kernel_rfl
end Go.Proofs.YtjeolfcefeglpabGreat
set_option maxRecDepth 20000
namespace Go.Proofs.YtjeolfcefeglpabGreat
open Go.ChangeShapes Go.WideShapes Go.ChangeAt Go.RowKit Wd

/-- The law's blocks. -/
structure Bl where
  sb : Nat
  rb : Nat
  mb : Nat
  bs : Nat
  lmb : Nat
  lp : Nat
  lx : Nat
  g : Nat
  xb : Nat
  jb : Nat
  ub : Nat
  tb : Nat
  fb : Nat
/-- In which order they were made. -/
structure Bo (k : Bl) : Prop where
  a1 : k.sb < k.bs
  a2 : k.rb < k.bs
  a3 : k.mb < k.bs
  a4 : k.bs < k.lmb
  a5 : k.lmb < k.lp
  a6 : k.lp < k.lx
  a7 : k.lx < k.g
  a8 : k.g < k.xb
  a9 : k.xb < k.jb
  b1 : k.jb < k.ub
  b2 : k.ub < k.tb
  b3 : k.tb < k.fb
/-- What the law reads beside the locks and the jobs. -/
def SK (k : Bl) (b : Nat) : Prop := b = k.sb ∨ b = k.rb ∨ b = k.mb ∨ b = k.bs ∨ b = k.lx ∨ b = k.fb ∨ b = k.xb ∨ b = k.g ∨ b = k.ub ∨ b = k.tb
/-- What the closure changes. -/
def SC (k : Bl) (b : Nat) : Prop := b = k.sb ∨ b = k.mb ∨ b = k.xb ∨ b = k.g ∨ b = k.fb
abbrev b4V (u : Nat → Bool) : Array Value := #[.bool (u 0), .bool (u 1), .bool (u 2), .bool (u 3)]
abbrev p4V (p : Nat → Nat) : Array Value := #[.int .i64 (p 0 : Nat), .int .i64 (p 1 : Nat), .int .i64 (p 2 : Nat), .int .i64 (p 3 : Nat)]
structure SeM (W : World) (k : Bl) (c : Cf) (cap : Nat) (B : List Int) (T : Rv.Tb) (u : Nat → Bool) (p : Nat → Nat) : Prop where
  sh : ShAt W k.sb k.rb k.mb c B T
  rf : RefAt W k.g 5 c.lines.toNat B
  x : CsAt W k.xb SXT (sxT c k.g c.lines.toNat cap T)
  s0 : CsAt W k.bs 27 #[.pointer (some ⟨k.sb, 0, none⟩)]
  l0 : CsAt W k.lx 31 #[.pointer (some ⟨k.lp, 0, none⟩)]
  fi : CsAt W k.fb 4 #[.bool true]
  busy : CsAt W k.ub 49 (b4V u)
  at_ : CsAt W k.tb 50 (p4V p)
theorem RefAt.keep {w w' : World} {gb n : Nat} {t : TypeId} {B : List Int} (h : RefAt w gb t n B) (hb : w'.heap[gb]? = w.heap[gb]?) : RefAt w' gb t n B := ⟨h.ok, h.n1, by
  obtain ⟨Z, hZ⟩ := h.row
  exact ⟨Z, hb.trans hZ⟩⟩
section
variable {W W' V : World} {k : Bl} {c : Cf} {cap : Nat} {B B' : List Int} {T T' : Rv.Tb} {u : Nat → Bool} {p : Nat → Nat}
theorem SeM.keep (h : SeM W k c cap B T u p) (hk : ∀ b, SK k b → W'.heap[b]? = W.heap[b]?) : SeM W' k c cap B T u p :=
  ⟨h.sh.keep (hk _ (.inl rfl)) (hk _ (.inr (.inl rfl))) (hk _ (.inr (.inr (.inl rfl)))), h.rf.keep (hk _ (.inr (.inr (.inr (.inr (.inr (.inr (.inr (.inl rfl))))))))), (hk _ (.inr (.inr (.inr (.inr (.inr (.inr (.inl rfl)))))))).trans h.x, (hk _ (.inr (.inr (.inr (.inl rfl))))).trans h.s0,
   (hk _ (.inr (.inr (.inr (.inr (.inl rfl)))))).trans h.l0, (hk _ (.inr (.inr (.inr (.inr (.inr (.inl rfl))))))).trans h.fi, (hk _ (.inr (.inr (.inr (.inr (.inr (.inr (.inr (.inr (.inl rfl)))))))))).trans h.busy, (hk _ (.inr (.inr (.inr (.inr (.inr (.inr (.inr (.inr (.inr rfl)))))))))).trans h.at_⟩
theorem SeM.lts (h : SeM W k c cap B T u p) : k.sb < W.heap.size ∧ k.rb < W.heap.size ∧ k.mb < W.heap.size ∧ k.bs < W.heap.size ∧ k.lx < W.heap.size ∧ k.fb < W.heap.size ∧ k.xb < W.heap.size ∧ k.g < W.heap.size ∧ k.ub < W.heap.size ∧ k.tb < W.heap.size :=
  ⟨h.sh.slt, h.sh.ram.lt, h.sh.ram.mlt, h.s0.lt, h.l0.lt, h.fi.lt, h.x.lt, h.rf.lt, h.busy.lt, h.at_.lt⟩
theorem SeM.low (h : SeM W k c cap B T u p) (hb : Below W.heap.size W W') : SeM W' k c cap B T u p := h.keep fun b hk => hb.block b (by
  have l := h.lts
  rcases hk with rfl | rfl | rfl | rfl | rfl | rfl | rfl | rfl | rfl | rfl <;> omega)
/-- The box that says that all is fine is laid anew. -/
theorem SeM.fine (h : SeM W k c cap B T u p) (ho : Bo k) : SeM (W.setCell ⟨k.fb, 0, none⟩ (.bool true)) k c cap B T u p := by
  have f : ∀ b, b ≠ k.fb → (W.setCell ⟨k.fb, 0, none⟩ (.bool true)).heap[b]? = W.heap[b]? := fun b hb => heap_setCell_other W ⟨k.fb, 0, none⟩ b _ hb
  obtain ⟨a1, a2, a3, a4, a5, a6, a7, a8, a9, b1, b2, b3⟩ := ho
  exact ⟨h.sh.keep (f _ (by omega)) (f _ (by omega)) (f _ (by omega)), h.rf.keep (f _ (by omega)), (f _ (by omega)).trans h.x, (f _ (by omega)).trans h.s0, (f _ (by omega)).trans h.l0, one_set h.fi _, (f _ (by omega)).trans h.busy, (f _ (by omega)).trans h.at_⟩
end
/-- What stands while the closure looks who holds what. -/
structure S1At (Z : Nat → Prop) (W V : World) (k : Bl) (c : Cf) (cap : Nat) (B : List Int) (T : Rv.Tb) (u : Nat → Bool) (p : Nat → Nat) (base nl hb ab q : Nat) (a : Ak) (R : Int → List Int) : Prop where
  m : SeM V k c cap B T u p
  lk : LkAt Z V base k.lp k.lmb nl R
  h : V.cell? ⟨hb, 0, none⟩ = some (.int .i64 (q : Int))
  a : AkAt V ab a
  but : But (SC k) W V
section
variable {Z : Nat → Prop} {W V V' : World} {k : Bl} {c : Cf} {cap : Nat} {B : List Int} {T : Rv.Tb} {u : Nat → Bool} {p : Nat → Nat} {base nl hb ab q : Nat} {a : Ak} {R : Int → List Int}
theorem S1At.low (h : S1At Z W V k c cap B T u p base nl hb ab q a R) (hb' : Below V.heap.size V V') : S1At Z W V' k c cap B T u p base nl hb ab q a R := ⟨h.m.low hb', h.lk.low hb', cell_low h.h hb', h.a.low hb', h.but.trans (But.of_below hb')⟩
theorem S1At.fine (h : S1At Z W V k c cap B T u p base nl hb ab q a R) (ho : Bo k) (hz : Z k.fb) (n1 : hb ≠ k.fb) (n2 : ab ≠ k.fb) : S1At Z W (V.setCell ⟨k.fb, 0, none⟩ (.bool true)) k c cap B T u p base nl hb ab q a R :=
  ⟨h.m.fine ho, h.lk.far hz (by have := ho.a6; have := ho.a7; have := ho.a8; have := ho.a9; have := ho.b1; have := ho.b2; have := ho.b3; omega) _, cell_far h.h n1 _, ⟨h.a.cs.far n2 _⟩, h.but.trans (But.of_cell (.inr (.inr (.inr (.inr rfl)))) 0 _)⟩
end
theorem enters_serial : Go.Proofs.Enters Tryz.prog 12 := enters_of Tryz.func12 rfl rfl
set_option maxRecDepth 100000 in
set_option maxHeartbeats 4000000 in
theorem serial1_c {Z : Nat → Prop} {W : World} {k : Bl} {c : Cf} {cap : Nat} {B : List Int} {T : Rv.Tb} {u : Nat → Bool} {p : Nat → Nat} {base nl hb ab q : Nat} {a : Ak} {R : Int → List Int} (ha : a.In) (ho : Bo k) (hm : SeM W k c cap B T u p) (hl : LkAt Z W base k.lp k.lmb nl R) (hh : W.cell? ⟨hb, 0, none⟩ = some (.int .i64 (q : Int))) (hak : AkAt W ab a)
    (hz : Z k.fb) (n1 : ∀ b, SC k b → hb ≠ b ∧ ab ≠ b) (hold : ∀ x ∈ Sh.needS c a, R x ≠ [] ∧ (R x).getD 0 0 = (q : Int)) :
    Calls Tryz.prog 12 #[.pointer (some ⟨k.bs, 0, none⟩), .pointer (some ⟨ab, 0, none⟩), .pointer (some ⟨k.lx, 0, none⟩), .pointer (some ⟨k.fb, 0, none⟩), .pointer (some ⟨hb, 0, none⟩), .pointer (some ⟨k.xb, 0, none⟩)] W fun e w' =>
      e = .returned (.tuple #[]) ∧ (∃ B' T', SeM w' k c cap B' T' u p) ∧ But (SC k) W w' := by
  have HS0 := Lib.hid (show S1At Z W W k c cap B T u p base nl hb ab q a R from ⟨hm, hl, hh, hak, But.refl _ _⟩)
  have HN1 := Lib.hid n1
  have HSN := Lib.hid (fun V (h : ShAt V k.sb k.rb k.mb c B T) => sneeds_c a ha V h)
  have HRG := Lib.hid (need_rng (c := c) ha)
  obtain ⟨ns, hns⟩ : ∃ ns, Sh.needS c a = ns := ⟨_, rfl⟩
  have hn4 := need_len4 hns
  rw [hns] at HSN HRG hold
  have HHO := Lib.hid hold
  have HCF := Lib.hid (show c.harts ≤ 8 from (hm.sh.conf).1.2)
  have HTO := Lib.hid (show Rv.Ok T from hm.sh.tab.ok)
  have s0 : W.cell? ⟨k.bs, 0, none⟩ = some (.pointer (some ⟨k.sb, 0, none⟩)) := hm.s0.cell 0
  have nfb : hb ≠ k.fb ∧ ab ≠ k.fb := n1 _ (.inr (.inr (.inr (.inr rfl))))
  clear hm hl hak hold hns n1
  go_enter Tryz.func12, Tryz.ntmps12
  go_wp2_with (refine wpList_load_row rfl AKT _ rfl ab rfl AKT (akC a) (0, 0) _ HS0.out.a.cs Tryz.underlying58 rfl info_ak ?_)
  refine (HSN.out W HS0.out.m.sh).mono ?_
  rintro e w1 ⟨v1, rfl, hown, hb1⟩
  obtain ⟨p1, cap1, rfl, hv1, hp1, -⟩ := own_formT hown
  have HV := Lib.hid hv1
  have HP := Lib.hid (show ∀ b, p1 = some ⟨b, 0, none⟩ → W.heap.size ≤ b ∧ b < w1.heap.size from fun b e => by
    rcases hp1 with ⟨h, -⟩ | ⟨b', h, h1, h2⟩
    · rw [h] at e; cases e
    · rw [h] at e; cases e; exact ⟨h1, h2⟩)
  have HPF := Lib.hid (show 0 < ns.length → ∃ b, p1 = some ⟨b, 0, none⟩ from fun hn => by
    rcases hp1 with ⟨h, -⟩ | ⟨b', h, -⟩
    · obtain ⟨b, o, h2, -⟩ := hv1.cells hn
      rw [h] at h2; cases h2
    · exact ⟨b', h⟩)
  have hfw := HS0.out.m.lts
  have HS1 := Lib.hid (HS0.out.low hb1)
  clear hown hb1 hv1 hp1 s0 HS0 hh
  obtain ⟨m, hm⟩ : ∃ m, ns.length = m := ⟨_, rfl⟩
  rw [hm] at hn4 HPF ⊢
  have HM := Lib.hid hm
  clear hm
  go_wp2_with fail
  go_loopw [7] (fun iv wr => ∃ j : Nat, j ≤ m ∧ iv = .int .i64 (j : Int) ∧ S1At Z W wr k c cap B T u p base nl hb ab q a R ∧ But (fun b => b = k.fb) w1 wr) (fun iv _ => m - (intOf iv).toNat)
  case atStart => exact ⟨0, Nat.zero_le _, rfl, HS1.out, But.refl _ _⟩
  case round =>
    obtain ⟨j, hj, rfl, hs, hbt⟩ := hrel
    have HS := Lib.hid hs
    have HBT := Lib.hid hbt
    clear hs hbt HS1
    by_cases hlt : j < m
    · have e0 : decide ((j : Int) < (m : Int)) = true := by simp; omega
      have gj : (j : Int) < (m : Int) := by omega
      obtain ⟨nb, hnb⟩ := HPF.out (by omega)
      have HNB := Lib.hid (HP.out nb hnb)
      subst hnb
      have HCE := Lib.hid (show ∀ V : World, But (fun b => b = k.fb) w1 V → V.cell? ⟨nb, j, none⟩ = some (.int .i64 (ns.getD j 0)) from fun V hb => by
        obtain ⟨b, o, e, hblt, hc⟩ := HV.out.cells (by have := HM.out; omega)
        cases e
        have hcj := hc j (by have := HM.out; omega)
        rw [Nat.zero_add] at hcj
        exact (World.cell?_of_block (w := w1) (a := ⟨nb, j, none⟩) (hb.block nb hblt (by have := HNB.out; omega))).trans hcj)
      have HJI := Lib.hid (show InI (ns.getD j 0) ∧ R (ns.getD j 0) ≠ [] ∧ (R (ns.getD j 0)).getD 0 0 = (q : Int) by
        have hjl : j < ns.length := by have := HM.out; omega
        have hmem : ns.getD j 0 ∈ ns := by rw [List.getD, List.getElem?_eq_getElem hjl]; exact List.getElem_mem hjl
        exact ⟨HRG.out _ hmem, HHO.out _ hmem⟩)
      generalize ns.getD j 0 = x at *
      have HHC := Lib.hid (fun V (h : LkV V (.pointer (some ⟨k.lp, 0, none⟩)) nl R) => holder_c (.pointer (some ⟨k.lp, 0, none⟩)) x nl R V h HJI.out.1)
      rw [HJI.out.2.2, show decide (R x ≠ []) = true by simp [HJI.out.2.1]] at HHC
      go_upto_region 4 with fail
      refine wp_region_steady (fun V => S1At Z W V k c cap B T u p base nl hb ab q a R ∧ But (fun b => b = k.fb) w1 V) (by kernel_rfl) (by kernel_rfl) ⟨HS.out.low (Below.refl _ _).drew, HBT.out.trans (But.of_below (Below.refl _ _).drew)⟩ ?_
      refine steady_val ?_ ?_ (by kernel_rfl) (fun W0 hS => ?_) ?_ ?_
      rotate_left 2
      · (have q0 : W0.cell? ⟨k.lx, 0, none⟩ = some (.pointer (some ⟨k.lp, 0, none⟩)) := hS.1.m.l0.cell 0); go_simp
        exact rfl
      · go_simp
        exact rfl
      iterate 3
        refine steady_val ?_ ?_ (by kernel_rfl) (fun W0 hS => ?_) ?_ ?_
        rotate_left 2
        · go_simp
          exact rfl
        · go_simp
          exact rfl
      refine steady_val ?_ ?_ (by kernel_rfl) (fun W0 hS => ?_) ?_ ?_
      rotate_left 2
      · (have q1 := HCE.out _ hS.2); go_simp
        exact rfl
      · go_simp
        exact rfl
      refine steady_enter (.tuple #[.int .i64 (q : Int), .bool true]) 13 #[.pointer (some ⟨k.lp, 0, none⟩), .int .i64 x] ?_ (by kernel_rfl) (fun W0 hS => ?_) (fun W0 hS => (HHC.out W0 (.inr ⟨Z, base, k.lp, k.lmb, rfl, hS.1.lk⟩)).mono (by rintro e w' ⟨rfl, rfl⟩; exact ⟨rfl, hS⟩)) ?_ ?_
      rotate_left 1
      · go_simp
      · go_simp
        exact rfl
      iterate 5
        refine steady_val ?_ ?_ (by kernel_rfl) (fun W0 hS => ?_) ?_ ?_
        rotate_left 2
        · go_simp
          exact rfl
        · go_simp
          exact rfl
      refine steady_nil ?_
      intro V hS
      have HS2 := Lib.hid hS
      clear hS HS HBT
      have cf : V.cell? ⟨k.fb, 0, none⟩ = some (.bool true) := HS2.out.1.m.fi.cell 0
      have ff := HS2.out.1.m.fi.frozen 0
      have chh := HS2.out.1.h
      have HS3 := Lib.hid (show S1At Z W (V.setCell ⟨k.fb, 0, none⟩ (.bool true)) k c cap B T u p base nl hb ab q a R ∧ But (fun b => b = k.fb) w1 (V.setCell ⟨k.fb, 0, none⟩ (.bool true)) from
        ⟨HS2.out.1.fine ho hz nfb.1 nfb.2, HS2.out.2.trans (But.of_cell (S := fun b => b = k.fb) rfl 0 _)⟩)
      go_wp2_with fail
      go_roundw
      case rel => exact ⟨j + 1, by omega, by go_num, HS3.out.1, HS3.out.2⟩
      case measure => simp [intOf]; omega
    · obtain rfl : j = m := by omega
      have e0 : decide ((j : Int) < (j : Int)) = false := by simp
      clear HV HP HPF HBT
      have s0 : wr.cell? ⟨k.bs, 0, none⟩ = some (.pointer (some ⟨k.sb, 0, none⟩)) := HS.out.m.s0.cell 0
      have chh := HS.out.h
      go_wp2_with (refine wpList_load_row rfl AKT _ rfl ab rfl AKT (akC a) (0, 0) _ HS.out.a.cs Tryz.underlying58 rfl info_ak ?_)
      refine (do_anyT a ha (q : Int) wr HS.out.m.sh).mono ?_
      rintro e w2 ⟨d, gd, ok, B', T', rfl, hs2, ht2, k1, k2, k3⟩
      have HK := Lib.hid (And.intro k1 (And.intro k2 k3))
      have hbut2 : But (SC k) wr w2 := But.of_two ht2 (.inl rfl) (.inr (.inl rfl))
      have l2 := HS.out.m.lts
      have oo := ho
      obtain ⟨a1, a2, a3, a4, a5, a6, a7, a8, a9, b1, b2, b3⟩ := oo
      have h12 := HS.out.m.sh.nr
      have h13 := HS.out.m.sh.nm
      have kp : ∀ b, b < wr.heap.size → b ≠ k.sb → b ≠ k.mb → w2.heap[b]? = wr.heap[b]? := fun b hb h1 h2 => ht2.block b hb h1 h2
      have hnab := HN1.out k.sb (.inl rfl)
      have hnab2 := HN1.out k.mb (.inr (.inl rfl))
      have h2h := (World.cell?_of_block (w := wr) (a := ⟨hb, 0, none⟩) (kp hb (World.block_lt_of_cell? _ _ HS.out.h) hnab.1 hnab2.1)).trans HS.out.h
      have h2a : AkAt w2 ab a := ⟨(kp ab HS.out.a.cs.lt hnab.2 hnab2.2).trans HS.out.a.cs⟩
      have H2 := Lib.hid (show ShAt w2 k.sb k.rb k.mb c B' T' ∧ RefAt w2 k.g 5 c.lines.toNat B ∧ CsAt w2 k.xb SXT (sxT c k.g c.lines.toNat cap T) ∧ CsAt w2 k.fb 4 #[.bool true] ∧ w2.cell? ⟨hb, 0, none⟩ = some (.int .i64 (q : Int)) ∧ AkAt w2 ab a from
        ⟨hs2, HS.out.m.rf.keep (kp _ (by omega) (by omega) (by omega)), (kp _ (by omega) (by omega) (by omega)).trans HS.out.m.x, (kp _ (by omega) (by omega) (by omega)).trans HS.out.m.fi, h2h, h2a⟩)
      have HO2 := Lib.hid (show CsAt w2 k.bs 27 #[.pointer (some ⟨k.sb, 0, none⟩)] ∧ CsAt w2 k.lx 31 #[.pointer (some ⟨k.lp, 0, none⟩)] ∧ CsAt w2 k.ub 49 (b4V u) ∧ CsAt w2 k.tb 50 (p4V p) ∧ But (SC k) W w2 from
        ⟨(kp _ (by omega) (by omega) (by omega)).trans HS.out.m.s0, (kp _ (by omega) (by omega) (by omega)).trans HS.out.m.l0, (kp _ (by omega) (by omega) (by omega)).trans HS.out.m.busy, (kp _ (by omega) (by omega) (by omega)).trans HS.out.m.at_, HS.out.but.trans hbut2⟩)
      clear k1 k2 k3 hs2 ht2 hbut2 kp h2h h2a HS s0 chh h12 h13 hnab hnab2
      go_upto_region 7 with (refine wpList_storeNew (w0 := w2) rfl ANT _ _ rfl (anC 0 false) (anC d gd) ANT rfl rfl info_an rfl (anC_one _ _) ?_)
      have hbx := box_below w2 (anC d gd) ANT
      have HX := Lib.hid (CsAt.new w2 ANT (anC d gd))
      have H3 := Lib.hid (show ShAt (w2.alloc (.cells (anC d gd) ANT)) k.sb k.rb k.mb c B' T' ∧ RefAt (w2.alloc (.cells (anC d gd) ANT)) k.g 5 c.lines.toNat B ∧ CsAt (w2.alloc (.cells (anC d gd) ANT)) k.xb SXT (sxT c k.g c.lines.toNat cap T) ∧ CsAt (w2.alloc (.cells (anC d gd) ANT)) k.fb 4 #[.bool true] ∧ (w2.alloc (.cells (anC d gd) ANT)).cell? ⟨hb, 0, none⟩ = some (.int .i64 (q : Int)) ∧ AkAt (w2.alloc (.cells (anC d gd) ANT)) ab a from
        ⟨H2.out.1.low hbx, H2.out.2.1.low hbx, H2.out.2.2.1.low hbx, H2.out.2.2.2.1.low hbx, cell_low H2.out.2.2.2.2.1 hbx, H2.out.2.2.2.2.2.low hbx⟩)
      have HO3 := Lib.hid (show CsAt (w2.alloc (.cells (anC d gd) ANT)) k.bs 27 #[.pointer (some ⟨k.sb, 0, none⟩)] ∧ CsAt (w2.alloc (.cells (anC d gd) ANT)) k.lx 31 #[.pointer (some ⟨k.lp, 0, none⟩)] ∧ CsAt (w2.alloc (.cells (anC d gd) ANT)) k.ub 49 (b4V u) ∧ CsAt (w2.alloc (.cells (anC d gd) ANT)) k.tb 50 (p4V p) ∧ But (SC k) W (w2.alloc (.cells (anC d gd) ANT)) from
        ⟨HO2.out.1.low hbx, HO2.out.2.1.low hbx, HO2.out.2.2.1.low hbx, HO2.out.2.2.2.1.low hbx, HO2.out.2.2.2.2.trans (But.of_below hbx)⟩)
      have hxl := HX.out.lt
      have l2x := H2.out.2.2.2.1.lt
      have lg2 := H2.out.2.1.lt
      clear hbx H2 HO2
      generalize w2.alloc (.cells (anC d gd) ANT) = w3 at *
      have hyb := HX.out.lt
      generalize w2.heap.size = yb at *
      have chh := H3.out.2.2.2.2.1
      go_wp2_with (first | (refine wpList_load_row rfl AKT _ rfl ab rfl AKT (akC a) (0, 0) _ H3.out.2.2.2.2.2.cs Tryz.underlying58 rfl info_ak ?_) | (refine wpList_load_row rfl SXT _ rfl k.xb rfl SXT _ (0, 0) _ H3.out.2.2.1 Tryz.underlying43 rfl info_sx ?_))
      refine (rdo14_c a ha c HCF.out k.g c.lines.toNat cap T HTO.out (q : Int) w3 H3.out.2.1).mono ?_
      rintro e w4 ⟨d2, gd2, ok2, B2, T2, rfl, hr4, ho4, k1, k2, k3⟩
      have HEQ : d2 = d ∧ gd2 = gd ∧ ok2 = ok ∧ B2 = B' ∧ T2 = T' := by
        obtain ⟨j1, j2, j3⟩ := HK.out
        have e1 : ok2 = ok := k1.trans j1.symm
        cases ok with
        | true =>
          obtain ⟨x1, x2, x3, x4⟩ := j2 rfl
          obtain ⟨y1, y2, y3, y4⟩ := k2 e1
          exact ⟨y1.trans x1.symm, y2.trans x2.symm, e1, y3.trans x3.symm, y4.trans x4.symm⟩
        | false =>
          obtain ⟨x1, x2, x3, x4⟩ := j3 rfl
          obtain ⟨y1, y2, y3, y4⟩ := k3 e1
          exact ⟨y1.trans x1.symm, y2.trans x2.symm, e1, y3.trans x3.symm, y4.trans x4.symm⟩
      obtain ⟨rfl, rfl, rfl, rfl, rfl⟩ := HEQ
      have hlt4 := hr4.lt
      have hgw : k.g < w3.heap.size := H3.out.2.1.lt
      have hb5 := box_below w4 zeroSx SXT
      have hb6 := box_below (w4.alloc (.cells zeroSx SXT)) (anC 0 false) ANT
      have hs5 : (w4.alloc (.cells zeroSx SXT)).heap.size = w4.heap.size + 1 := by simp
      have HZ := Lib.hid ((CsAt.new w4 SXT zeroSx).low hb6)
      have HZ2 := Lib.hid (show CsAt ((w4.alloc (.cells zeroSx SXT)).alloc (.cells (anC 0 false) ANT)) (w4.heap.size + 1) ANT (anC 0 false) from hs5 ▸ CsAt.new (w4.alloc (.cells zeroSx SXT)) ANT (anC 0 false))
      have HB6 := Lib.hid (show Below w4.heap.size w4 ((w4.alloc (.cells zeroSx SXT)).alloc (.cells (anC 0 false) ANT)) from hb5.trans (hb6.mono hb5.size))
      have hz6 := zero_an
      clear hb5 hb6 hs5 k1 k2 k3 HK
      have hsx : (sxT c k.g c.lines.toNat cap T2).size = 21 := rfl
      go_upto_region 8 with (first | (refine wpList_store_row rfl SXT _ _ rfl w4.heap.size (sxT c k.g c.lines.toNat cap T2) rfl rfl SXT zeroSx HZ.out info_sx rfl (sx_one _ _ _ _ _ _) ?_) | (refine wpList_store_row rfl ANT _ _ rfl (w4.heap.size + 1) (anC d2 gd2) rfl rfl ANT (anC 0 false) (HZ2.out.rowFar (c := w4.heap.size) (by omega) (sxT c k.g c.lines.toNat cap T2)) info_an rfl (anC_one _ _) ?_))
      have kp : ∀ b, b < w3.heap.size → b ≠ k.g → ((((w4.alloc (.cells zeroSx SXT)).alloc (.cells (anC 0 false) ANT)).setRow w4.heap.size (sxT c k.g c.lines.toNat cap T2)).setRow (w4.heap.size + 1) (anC d2 gd2)).heap[b]? = w3.heap[b]? := fun b hb hg => by
        have h4 := ho4.size
        rw [setRow_other _ _ b _ (by omega), setRow_other _ _ b _ (by omega), HB6.out.block b (by omega)]
        exact ho4.block b hb hg
      have kg : ((((w4.alloc (.cells zeroSx SXT)).alloc (.cells (anC 0 false) ANT)).setRow w4.heap.size (sxT c k.g c.lines.toNat cap T2)).setRow (w4.heap.size + 1) (anC d2 gd2)).heap[k.g]? = w4.heap[k.g]? := by
        rw [setRow_other _ _ k.g _ (by omega), setRow_other _ _ k.g _ (by omega), HB6.out.block k.g (by omega)]
      have HT6 := Lib.hid (show CsAt ((((w4.alloc (.cells zeroSx SXT)).alloc (.cells (anC 0 false) ANT)).setRow w4.heap.size (sxT c k.g c.lines.toNat cap T2)).setRow (w4.heap.size + 1) (anC d2 gd2)) w4.heap.size SXT (sxT c k.g c.lines.toNat cap T2) from (HZ.out.row _).rowFar (by omega) _)
      have HA6 := Lib.hid (show CsAt ((((w4.alloc (.cells zeroSx SXT)).alloc (.cells (anC 0 false) ANT)).setRow w4.heap.size (sxT c k.g c.lines.toNat cap T2)).setRow (w4.heap.size + 1) (anC d2 gd2)) (w4.heap.size + 1) ANT (anC d2 gd2) from (HZ2.out.rowFar (by omega) _).row _)
      have HB7 := Lib.hid (show But (SC k) W ((((w4.alloc (.cells zeroSx SXT)).alloc (.cells (anC 0 false) ANT)).setRow w4.heap.size (sxT c k.g c.lines.toNat cap T2)).setRow (w4.heap.size + 1) (anC d2 gd2)) from by
        have h3 := HO3.out.2.2.2.2
        have h4 := ho4.size
        have h6 := HB6.out
        refine ⟨(h6.os.trans ho4.os).trans h3.os, (h6.tape.trans ho4.tape).trans h3.tape, (h6.output.trans ho4.output).trans h3.output, Nat.le_trans h3.size (Nat.le_trans h4 (Nat.le_trans h6.size (by simp))), fun b hb hs => ?_⟩
        have hw := h3.size
        exact (kp b (by omega) (fun e => hs (e ▸ .inr (.inr (.inr (.inl rfl)))))).trans (h3.block b hb hs))
      have hg6 := hr4.keep kg
      have hzx : k.xb < w4.heap.size + 1 := by have := ho4.size; omega
      have H6 := Lib.hid (show ShAt _ k.sb k.rb k.mb c B2 T2 ∧ RefAt _ k.g 5 c.lines.toNat B2 from ⟨H3.out.1.keep (kp _ (by omega) (by omega)) (kp _ (by omega) (by omega)) (kp _ (by omega) (by omega)), hg6⟩)
      have H7 := Lib.hid (And.intro ((kp k.xb (by omega) (by omega)).trans H3.out.2.2.1) (And.intro ((kp k.fb (by omega) (by omega)).trans H3.out.2.2.2.1) ((kp yb (by omega) (by omega)).trans HX.out)))
      have H8 := Lib.hid (And.intro ((kp k.bs (by omega) (by omega)).trans HO3.out.1) (And.intro ((kp k.lx (by omega) (by omega)).trans HO3.out.2.1) (And.intro ((kp k.ub (by omega) (by omega)).trans HO3.out.2.2.1) ((kp k.tb (by omega) (by omega)).trans HO3.out.2.2.2.1))))
      clear kp kg hg6 HZ HZ2 HB6 hz6 H3 HO3 HX hr4 ho4
      generalize (((w4.alloc (.cells zeroSx SXT)).alloc (.cells (anC 0 false) ANT)).setRow w4.heap.size (sxT c k.g c.lines.toNat cap T2)).setRow (w4.heap.size + 1) (anC d2 gd2) = w6 at *
      generalize w4.heap.size + 1 = zb2 at *
      generalize w4.heap.size = zb at *
      go_upto_region 9 with (first | (refine wpList_load_row rfl SXT _ rfl zb rfl SXT _ (0, 0) _ HT6.out Tryz.underlying43 rfl info_sx ?_) | (refine wpList_store_row rfl SXT _ _ rfl k.xb (sxT c k.g c.lines.toNat cap T2) rfl rfl SXT (sxT c k.g c.lines.toNat cap T) H7.out.1 info_sx rfl (sx_one _ _ _ _ _ _) ?_))
      have S7 := Lib.hid (show SeM (w6.setRow k.xb (sxT c k.g c.lines.toNat cap T2)) k c cap B2 T2 u p from by
        have f : ∀ b, b ≠ k.xb → (w6.setRow k.xb (sxT c k.g c.lines.toNat cap T2)).heap[b]? = w6.heap[b]? := fun b hb => setRow_other w6 k.xb b _ hb
        exact ⟨H6.out.1.keep (f _ (by omega)) (f _ (by omega)) (f _ (by omega)), H6.out.2.keep (f _ (by omega)), CsAt.row H7.out.1 _, (f _ (by omega)).trans H8.out.1, (f _ (by omega)).trans H8.out.2.1, (f _ (by omega)).trans H7.out.2.1, (f _ (by omega)).trans H8.out.2.2.1, (f _ (by omega)).trans H8.out.2.2.2⟩)
      have HY7 := Lib.hid (show CsAt (w6.setRow k.xb (sxT c k.g c.lines.toNat cap T2)) yb ANT (anC d2 gd2) ∧ CsAt (w6.setRow k.xb (sxT c k.g c.lines.toNat cap T2)) zb2 ANT (anC d2 gd2) from ⟨CsAt.rowFar H7.out.2.2 (by omega) _, HA6.out.rowFar (by omega) _⟩)
      have HB8 := Lib.hid (show But (SC k) W (w6.setRow k.xb (sxT c k.g c.lines.toNat cap T2)) from HB7.out.trans ⟨rfl, rfl, rfl, by simp, fun b _ hs => setRow_other w6 k.xb b _ (fun e => hs (.inr (.inr (.inl e))))⟩)
      clear H6 H7 H8 HA6 HT6 HB7
      generalize w6.setRow k.xb (sxT c k.g c.lines.toNat cap T2) = w7 at *
      have cf : w7.cell? ⟨k.fb, 0, none⟩ = some (.bool true) := S7.out.fi.cell 0
      have ff := S7.out.fi.frozen 0
      have S8 := Lib.hid (S7.out.fine ho)
      have HB9 := Lib.hid (HB8.out.trans (But.of_cell (S := SC k) (.inr (.inr (.inr (.inr rfl)))) 0 (.bool true)))
      go_wp2_with (first | (refine wpList_load_rowW rfl ANT _ rfl yb rfl ANT (anC d2 gd2) (0, 0) _ HY7.out.1 Tryz.underlying66 rfl info_an ?_) | (refine wpList_load_rowW rfl ANT _ rfl zb2 rfl ANT (anC d2 gd2) (0, 0) _ HY7.out.2 Tryz.underlying66 rfl info_an ?_) | (refine wpList_cmpW rfl .eql ANT _ _ _ rfl (anC d2 gd2) (anC d2 gd2) rfl rfl guard_an _ (self_an _ _ _) ?_))
      go_end0
      exact ⟨rfl, ⟨B2, T2, S8.out⟩, HB9.out⟩
end Go.Proofs.YtjeolfcefeglpabGreat
