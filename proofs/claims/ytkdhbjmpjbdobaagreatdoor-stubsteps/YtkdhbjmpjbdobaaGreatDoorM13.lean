/-
  The texts WBackP, SPlain, KPlain, as one.
-/
import Derived.Test.YtkdhbjmpjbdobaaGreatDoorM12
/- WBackP -/
namespace Go.Proofs.YtkdhbjmpjbdobaaGreatDoor
open Me
set_option maxRecDepth 100000
namespace Me
theorem digits_off (b m : Nat) : ∀ k n, k ≤ n → Pl.digits k (b * 256 ^ n + m) = Pl.digits k m
  | 0, _, _ => rfl
  | k + 1, n, h => by
    rw [Pl.digits_succ, Pl.digits_succ, digits_off b m k n (by omega)]
    have e : (256 : Nat) ^ n = 256 ^ k * (256 * 256 ^ (n - k - 1)) := by
      rw [← Nat.pow_succ', ← Nat.pow_add]; congr 1; omega
    have e2 : b * 256 ^ n + m = m + 256 ^ k * (256 * (b * 256 ^ (n - k - 1))) := by
      rw [e, Nat.add_comm, Nat.mul_left_comm b, Nat.mul_left_comm b 256]
    rw [e2, Nat.add_mul_div_left _ _ (Nat.pow_pos (by decide)), Nat.add_mul_mod_self_left]
theorem digits_numOf : ∀ l : List UInt8, Pl.digits l.length (Pl.numOf l) = l
  | [] => rfl
  | b :: l => by
    have hl := Pl.numOf_lt l
    rw [List.length_cons, Pl.digits_succ, Pl.numOf_cons, digits_off _ _ _ _ (Nat.le_refl _), digits_numOf l]
    have h1 : (b.toNat * 256 ^ l.length + Pl.numOf l) / 256 ^ l.length = b.toNat := by
      rw [Nat.mul_comm, Nat.mul_add_div (Nat.pow_pos (by decide)), Nat.div_eq_of_lt hl, Nat.add_zero]
    rw [h1, Nat.mod_eq_of_lt b.toNat_lt]
    simp
theorem val_of {s : ByteArray} {z : Nat} (hs : s.size = z) (h1 : 1 ≤ z) (h7 : z ≤ 7) : Pl.numVal s = (Pl.numOf s.data.toList : Int) := by
  have a1 : Pl.sNum s = false := by simp only [Pl.sNum, decide_eq_false_iff_not]; omega
  have a2 : Pl.fNum s = false := by
    have : decide (s.size = 8) = false := decide_eq_false (by omega)
    simp [Pl.fNum, this]
  unfold Pl.numVal
  rw [a1, a2]
  simp
theorem num_forth {s : ByteArray} {z : Nat} (hs : s.size = z) (h1 : 1 ≤ z) (h7 : z ≤ 7) : Pl.numOut (Pl.numVal s) z = s := by
  have hl : s.data.toList.length = z := by simpa using hs
  have hlt := Pl.numOf_lt s.data.toList
  rw [hl] at hlt
  have hb : Pl.numBad (Pl.numOf s.data.toList : Int) z = false := by
    simp only [Pl.numBad, Bool.or_eq_false_iff, decide_eq_false_iff_not, Int.toNat_natCast]
    refine ⟨by omega, ?_⟩
    rw [Nat.div_eq_of_lt hlt]
    simp
  rw [val_of hs h1 h7, Pl.numOut, hb, if_neg (by decide), Int.toNat_natCast, Int.toNat_natCast, ← hl, digits_numOf, Pl.txt_toList]
theorem num_ok {n : Int} {z : Nat} (h0 : 0 ≤ n) (hz : 1 ≤ z) (h8 : z ≤ 8) (h : n.toNat < 256 ^ z) : Pl.numErr n z = 0 := by
  have hb : Pl.numBad n z = false := by
    simp only [Pl.numBad, Bool.or_eq_false_iff, decide_eq_false_iff_not, Int.toNat_natCast]
    refine ⟨by omega, ?_⟩
    rw [Nat.div_eq_of_lt h]
    simp
  simp [Pl.numErr, hb]
theorem num_back {n : Int} {z : Nat} (h0 : 0 ≤ n) (hz : 1 ≤ z) (h7 : z ≤ 7) (h : n.toNat < 256 ^ z) : Pl.numVal (Pl.numOut n z) = n ∧ (Pl.numOut n z).size = z := by
  have h63 : n ≤ 9223372036854775807 := by
    have : (256 : Nat) ^ z ≤ 256 ^ 7 := Nat.pow_le_pow_right (by decide) h7
    have e : (256 : Nat) ^ 7 = 72057594037927936 := by decide
    omega
  obtain ⟨a, _, b⟩ := Pl.num_back (n := n) (size := z) h63 (num_ok h0 hz (by omega) h)
  exact ⟨a, by omega⟩
theorem big_num {x : Int} (h : bigB x = true) : Pl.numVal (Pl.numOut x 6) = x ∧ (Pl.numOut x 6).size = 6 := by
  have := big_iff.1 h
  exact num_back (z := 6) this.1 (by decide) (by decide) (by omega)
theorem extract_left (a b : ByteArray) (n : Nat) (h : a.size = n) : (a ++ b).extract 0 n = a := by
  subst h
  rw [Pl.extract_txt]
  have : (a ++ b).data.toList = a.data.toList ++ b.data.toList := by simp [ByteArray.data_append]
  rw [this, List.drop_zero, List.take_append_of_le_length (by simp), List.take_of_length_le (by simp), Pl.txt_toList]
theorem extract_right (a b : ByteArray) (n m : Nat) (h : a.size = n) (hm : a.size + b.size ≤ m) : (a ++ b).extract n m = b := by
  subst h
  rw [Pl.extract_txt]
  have : (a ++ b).data.toList = a.data.toList ++ b.data.toList := by simp [ByteArray.data_append]
  have hl : a.size = a.data.toList.length := by simp
  rw [this, hl, List.drop_left, List.take_of_length_le (by simp; have : b.data.size = b.size := rfl; have h2 : a.data.size = a.size := rfl; omega), Pl.txt_toList]
theorem cut_two (s : ByteArray) (n : Nat) : s.extract 0 n ++ s.extract n s.size = s := by
  rw [Pl.extract_txt, Pl.extract_txt, Pl.txt_append]
  conv => rhs; rw [← Pl.txt_toList s]
  congr 1
  rw [List.drop_zero, Nat.sub_zero]
  have : (s.data.toList.drop n).take (s.size - n) = s.data.toList.drop n := List.take_of_length_le (by simp)
  rw [this, List.take_append_drop]
theorem app_assoc (a b c : ByteArray) : a ++ b ++ c = a ++ (b ++ c) := ByteArray.append_assoc
theorem itB_itOf {s : ByteArray} (h : 18 ≤ s.size) : itB (itOf s) = s := by
  obtain ⟨r1, h1⟩ : ∃ r, s.extract 6 s.size = r := ⟨_, rfl⟩
  obtain ⟨r2, h2⟩ : ∃ r, r1.extract 6 r1.size = r := ⟨_, rfl⟩
  obtain ⟨r3, h3⟩ : ∃ r, r2.extract 6 r2.size = r := ⟨_, rfl⟩
  have s1 : r1.size = s.size - 6 := by rw [← h1, ByteArray.size_extract]; omega
  have s2 : r2.size = s.size - 12 := by rw [← h2, ByteArray.size_extract]; omega
  rw [itOf_eq ⟨h1, h2, h3⟩ rfl rfl rfl]
  unfold itB
  have e6 : ((6 : Nat) : Int) = 6 := rfl
  have n1 := num_forth (s := s.extract 0 6) (z := 6) (by rw [ByteArray.size_extract]; omega) (by decide) (by decide)
  have n2 := num_forth (s := r1.extract 0 6) (z := 6) (by rw [ByteArray.size_extract]; omega) (by decide) (by decide)
  have n3 := num_forth (s := r2.extract 0 6) (z := 6) (by rw [ByteArray.size_extract]; omega) (by decide) (by decide)
  rw [e6] at n1 n2 n3
  simp only
  rw [n1, n2, n3, app_assoc, ← h3, cut_two, app_assoc, ← h2, cut_two, ← h1, cut_two]
theorem itOf_itB {x : It} (h : okIt x = true) : itOf (itB x) = x ∧ 18 ≤ (itB x).size := by
  obtain ⟨v, c, r, b⟩ := x
  simp only [okIt, decide_eq_true_eq] at h
  obtain ⟨v1, v2⟩ := num_back (n := v) (z := 6) h.1.1 (by decide) (by decide) (by omega)
  obtain ⟨c1, c2⟩ := num_back (n := c) (z := 6) h.2.1.1 (by decide) (by decide) (by omega)
  obtain ⟨r1, r2⟩ := num_back (n := r) (z := 6) (by omega) (by decide) (by decide) (by omega)
  have e6 : ((6 : Nat) : Int) = 6 := rfl
  rw [e6] at v1 v2 c1 c2 r1 r2
  have e : itB ⟨v, c, r, b⟩ = Pl.numOut v 6 ++ (Pl.numOut c 6 ++ (Pl.numOut r 6 ++ b)) := by unfold itB; simp only [app_assoc]
  rw [e]
  have t1 : (Pl.numOut v 6 ++ (Pl.numOut c 6 ++ (Pl.numOut r 6 ++ b))).extract 6 (Pl.numOut v 6 ++ (Pl.numOut c 6 ++ (Pl.numOut r 6 ++ b))).size = Pl.numOut c 6 ++ (Pl.numOut r 6 ++ b) := extract_right _ _ _ _ v2 (by rw [← ByteArray.size_append]; exact Nat.le_refl _)
  have t2 : (Pl.numOut c 6 ++ (Pl.numOut r 6 ++ b)).extract 6 (Pl.numOut c 6 ++ (Pl.numOut r 6 ++ b)).size = Pl.numOut r 6 ++ b := extract_right _ _ _ _ c2 (by rw [← ByteArray.size_append]; exact Nat.le_refl _)
  have t3 : (Pl.numOut r 6 ++ b).extract 6 (Pl.numOut r 6 ++ b).size = b := extract_right _ _ _ _ r2 (by rw [← ByteArray.size_append]; exact Nat.le_refl _)
  refine ⟨itOf_eq ⟨t1, t2, t3⟩ ?_ ?_ ?_, ?_⟩
  · rw [extract_left _ _ 6 v2, v1]
  · rw [extract_left _ _ 6 c2, c1]
  · rw [extract_left _ _ 6 r2, r1]
  · simp only [ByteArray.size_append]; omega
theorem manBy_of {s : ByteArray} (h : s.size = 12) : manBy (mn0 s) (mn1 s) (mn2 s) = s := by
  rw [mn0_eq, mn1_eq, mn2_eq]
  obtain ⟨r1, h1⟩ : ∃ r, s.extract 6 s.size = r := ⟨_, rfl⟩
  obtain ⟨r2, h2⟩ : ∃ r, r1.extract 2 r1.size = r := ⟨_, rfl⟩
  have s1 : r1.size = 6 := by rw [← h1, ByteArray.size_extract]; omega
  have s2 : r2.size = 4 := by rw [← h2, ByteArray.size_extract]; omega
  rw [h1, h2]
  unfold manBy
  have n1 := num_forth (s := s.extract 0 6) (z := 6) (by rw [ByteArray.size_extract]; omega) (by decide) (by decide)
  have n2 := num_forth (s := r1.extract 0 2) (z := 2) (by rw [ByteArray.size_extract]; omega) (by decide) (by decide)
  have n3 := num_forth (s := r2.extract 0 4) (z := 4) (by rw [ByteArray.size_extract]; omega) (by decide) (by decide)
  have e6 : ((6 : Nat) : Int) = 6 := rfl
  have e2 : ((2 : Nat) : Int) = 2 := rfl
  have e4 : ((4 : Nat) : Int) = 4 := rfl
  rw [e6] at n1
  rw [e2] at n2
  rw [e4] at n3
  have e5 : r2.extract 0 4 = r2 := by
    have := cut_two r2 4
    rw [← s2, ByteArray.extract_zero_size]
  rw [n1, n2, n3, e5, app_assoc, ← h2, cut_two, ← h1, cut_two]
theorem man_of {o z m : Int} (h : manR o z m = true) : mn0 (manBy o z m) = o ∧ mn1 (manBy o z m) = z ∧ mn2 (manBy o z m) = m ∧ (manBy o z m).size = 12 := by
  simp only [manR, decide_eq_true_eq] at h
  obtain ⟨a1, a2⟩ := num_back (n := o) (z := 6) h.1.1 (by decide) (by decide) (by omega)
  obtain ⟨b1, b2⟩ := num_back (n := z) (z := 2) (by omega) (by decide) (by decide) (by omega)
  obtain ⟨c1, c2⟩ := num_back (n := m) (z := 4) (by omega) (by decide) (by decide) (by omega)
  have e6 : ((6 : Nat) : Int) = 6 := rfl
  have e2 : ((2 : Nat) : Int) = 2 := rfl
  have e4 : ((4 : Nat) : Int) = 4 := rfl
  rw [e6] at a1 a2
  rw [e2] at b1 b2
  rw [e4] at c1 c2
  have e : manBy o z m = Pl.numOut o 6 ++ (Pl.numOut z 2 ++ Pl.numOut m 4) := by unfold manBy; simp only [app_assoc]
  rw [mn0_eq, mn1_eq, mn2_eq, e]
  have t1 : (Pl.numOut o 6 ++ (Pl.numOut z 2 ++ Pl.numOut m 4)).extract 6 (Pl.numOut o 6 ++ (Pl.numOut z 2 ++ Pl.numOut m 4)).size = Pl.numOut z 2 ++ Pl.numOut m 4 := extract_right _ _ _ _ a2 (by rw [← ByteArray.size_append]; exact Nat.le_refl _)
  have t2 : (Pl.numOut z 2 ++ Pl.numOut m 4).extract 2 (Pl.numOut z 2 ++ Pl.numOut m 4).size = Pl.numOut m 4 := extract_right _ _ _ _ b2 (by rw [← ByteArray.size_append]; exact Nat.le_refl _)
  rw [t1, t2, extract_left _ _ 6 a2, extract_left _ _ 2 b2]
  refine ⟨a1, b1, ?_, by simp only [ByteArray.size_append]; omega⟩
  have : (Pl.numOut m 4).extract 0 4 = Pl.numOut m 4 := by rw [← c2, ByteArray.extract_zero_size]
  rw [this, c1]
/-- The head's tag is greater than t. -/
def Hd (t : Int) (l : List (Int × ByteArray)) : Prop := ∀ x, l.head? = some x → t < x.1
theorem Hd.opt {t u : Int} {b : Bool} {s : ByteArray} {r : List (Int × ByteArray)} (h : Hd u r) (ht : t < u) : Hd t (opt b (u, s) ++ r) := by
  cases b with
  | true => intro x hx; simp [Me.opt] at hx; subst hx; exact ht
  | false => intro x hx; have := h x (by simpa [Me.opt] using hx); omega
theorem Hd.map {α : Type} {t u : Int} {f : α → ByteArray} {l : List α} {r : List (Int × ByteArray)} (h : Hd u r) (ht : t < u) : Hd t (l.map (fun x => (u, f x)) ++ r) := by
  cases l with
  | nil => intro x hx; have := h x (by simpa using hx); omega
  | cons y l => intro x hx; simp at hx; subst hx; exact ht
theorem Hd.nil (t : Int) : Hd t [] := fun _ h => by cases h
theorem pNum_opt {t n : Int} {z : Nat} {r : List (Int × ByteArray)} (hr : Hd t r) (hn : Pl.numVal (Pl.numOut n z) = n ∧ (Pl.numOut n z).size = z) : pNum t z (opt (n != 0) (t, Pl.numOut n z) ++ r) = some (n, r) := by
  by_cases h : n = 0
  · subst h
    rw [show ((0 : Int) != 0) = false from rfl]
    simp only [Me.opt, Bool.false_eq_true, if_false, List.nil_append]
    match r, hr with
    | [], _ => rfl
    | (u, s) :: l, hr =>
      have : t < u := hr (u, s) rfl
      simp only [pNum]
      rw [if_neg (by omega)]
  · have : (n != 0) = true := by simpa using h
    rw [this]
    simp only [Me.opt, if_true, List.cons_append, List.nil_append, pNum]
    rw [hn.1, if_pos ⟨hn.2, h⟩]
theorem pLives_map {l : List Int} {r : List (Int × ByteArray)} (hr : Hd 9 r) (hl : ∀ x ∈ l, bigB x = true) : pLives (lifeF l ++ r) = some (l, r) := by
  induction l with
  | nil =>
    exact pLives_skip fun x hx => by have := hr x hx; omega
  | cons x l ih =>
    have hx := big_num (hl x (by simp))
    have := ih fun y hy => hl y (by simp [hy])
    show pLives ((9, Pl.numOut x 6) :: (lifeF l ++ r)) = _
    simp only [pLives, if_true, hx.2, this, hx.1, Option.map_some]
theorem pItems_map {l : List It} {r : List (Int × ByteArray)} (hr : Hd 10 r) (hl : ∀ x ∈ l, okIt x = true) : pItems (itF l ++ r) = some (l, r) := by
  induction l with
  | nil =>
    exact pItems_skip fun x hx => by have := hr x hx; omega
  | cons x l ih =>
    have hx := itOf_itB (hl x (by simp))
    have := ih fun y hy => hl y (by simp [hy])
    show pItems ((10, itB x) :: (itF l ++ r)) = _
    simp only [pItems, if_true, hx.2, this, hx.1, Option.map_some]
theorem pMan_opt {o z m : Int} {r : List (Int × ByteArray)} (hr : Hd 11 r) (h : manB o z m = true) : pMan (opt (!manZ o z m) (11, manBy o z m) ++ r) = some ((o, z, m), r) := by
  cases hz : manZ o z m with
  | true =>
    simp only [manZ, Bool.and_eq_true, beq_iff_eq] at hz
    obtain ⟨rfl, rfl, rfl⟩ := hz
    simp only [Bool.not_true, Me.opt, Bool.false_eq_true, if_false, List.nil_append]
    match r, hr with
    | [], _ => rfl
    | (u, s) :: l, hr =>
      have : 11 < u := hr (u, s) rfl
      simp only [pMan]
      rw [if_neg (by omega)]
  | false =>
    have hR : manR o z m = true := by
      unfold manB at h
      rw [hz] at h
      simpa using h
    obtain ⟨a, b, c, d⟩ := man_of hR
    simp only [Bool.not_false, Me.opt, if_true, List.cons_append, List.nil_append, pMan]
    rw [a, b, c, if_pos ⟨d, hz⟩]
theorem snz_iff {s : ByteArray} : snz s = true ↔ s.size ≠ 0 := by
  unfold snz
  rw [ByteArray.toList_eq]
  cases s with
  | mk a => simp [ByteArray.size]
theorem empty_of {s : ByteArray} (h : s.size = 0) : s = ⟨#[]⟩ := by
  cases s with
  | mk a => simp [ByteArray.size] at h; rw [h]
theorem snz_nil : snz ⟨#[]⟩ = false := by unfold snz; rw [ByteArray.toList_eq]; rfl
theorem pData_opt {d : ByteArray} : pData (opt (snz d) (13, d) ++ []) = some (d, []) := by
  cases h : snz d with
  | true =>
    have := snz_iff.1 h
    simp only [Me.opt, if_true, List.cons_append, List.nil_append, pData]
    rw [if_neg this]
  | false =>
    have : d.size = 0 := by
      by_cases h0 : d.size = 0
      · exact h0
      · rw [snz_iff.2 h0] at h; cases h
    rw [empty_of this]
    rfl
/-- A memo's fields, one behind the other. -/
theorem fields_eq {m : Mm} (hk : kB m.k = true) : fields m = opt (m.k != 0) (1, Pl.numOut m.k 1) ++ (opt (m.v != 0) (2, Pl.numOut m.v 6) ++ (opt (m.n != 0) (3, Pl.numOut m.n 6) ++ (opt (m.o != 0) (4, Pl.numOut m.o 6) ++ (opt (m.c != 0) (5, Pl.numOut m.c 6) ++ (opt (m.b != 0) (6, Pl.numOut m.b 6) ++ (opt (m.l != 0) (7, Pl.numOut m.l 6) ++ (opt (m.cl != 0) (8, Pl.numOut m.cl 6) ++ (lifeF m.lives ++ (itF m.items ++ (opt (!manZ m.mo m.ms m.mm) (11, manBy m.mo m.ms m.mm) ++ (opt (m.nu != 0) (12, Pl.numOut m.nu 2) ++ (opt (snz m.d) (13, m.d) ++ [])))))))))))) := by
  have hk0 : (m.k != 0) = true := by simp only [kB, decide_eq_true_eq] at hk; simp; omega
  unfold fields g6 g5 g4 g3 g2 g1
  rw [hk0]
  simp only [bigs, bigF, List.append_assoc, List.append_nil]
  rfl
theorem pMemo_fields {m : Mm} (h : right m = true) : pMemo (fields m) = some m := by
  obtain ⟨hk, hb, hl, hil, hit, hm, hn, hd⟩ := right_iff.1 h
  have hb' : ∀ x ∈ bigs m, bigB x = true := List.all_eq_true.1 hb
  have bv := big_num (hb' m.v (by simp [bigs]))
  have bn := big_num (hb' m.n (by simp [bigs]))
  have bo := big_num (hb' m.o (by simp [bigs]))
  have bc := big_num (hb' m.c (by simp [bigs]))
  have bb := big_num (hb' m.b (by simp [bigs]))
  have bl := big_num (hb' m.l (by simp [bigs]))
  have bcl := big_num (hb' m.cl (by simp [bigs]))
  have bk : Pl.numVal (Pl.numOut m.k 1) = m.k ∧ (Pl.numOut m.k 1).size = 1 := by
    simp only [kB, decide_eq_true_eq] at hk
    exact num_back (z := 1) (by omega) (by decide) (by decide) (by omega)
  have bnu : Pl.numVal (Pl.numOut m.nu 2) = m.nu ∧ (Pl.numOut m.nu 2).size = 2 := by
    simp only [nB, decide_eq_true_eq] at hn
    exact num_back (z := 2) (by omega) (by decide) (by decide) (by omega)
  have hlv : ∀ x ∈ m.lives, bigB x = true := by
    unfold livB at hl
    simp only [Bool.or_eq_true, Bool.and_eq_true, decide_eq_true_eq, List.all_eq_true] at hl
    rcases hl with hl | hl
    · intro x hx; rw [List.eq_nil_of_length_eq_zero hl] at hx; cases hx
    · exact hl.2.2
  have hit' : ∀ x ∈ m.items, okIt x = true := List.all_eq_true.1 hit
  rw [fields_eq hk]
  have q13 : Hd 12 (opt (snz m.d) (13, m.d) ++ []) := (Hd.nil 13).opt (by decide)
  have q12 : Hd 11 (opt (m.nu != 0) (12, Pl.numOut m.nu 2) ++ (opt (snz m.d) (13, m.d) ++ [])) := q13.opt (by decide)
  generalize hr13 : opt (snz m.d) (13, m.d) ++ [] = r13 at *
  generalize hr12 : opt (m.nu != 0) (12, Pl.numOut m.nu 2) ++ r13 = r12 at *
  have q11 : Hd 10 (opt (!manZ m.mo m.ms m.mm) (11, manBy m.mo m.ms m.mm) ++ r12) := q12.opt (by decide)
  generalize hr11 : opt (!manZ m.mo m.ms m.mm) (11, manBy m.mo m.ms m.mm) ++ r12 = r11 at *
  have q10 : Hd 9 (itF m.items ++ r11) := q11.map (by decide)
  generalize hr10 : itF m.items ++ r11 = r10 at *
  have q9 : Hd 8 (lifeF m.lives ++ r10) := q10.map (by decide)
  generalize hr9 : lifeF m.lives ++ r10 = r9 at *
  have q8 : Hd 7 (opt (m.cl != 0) (8, Pl.numOut m.cl 6) ++ r9) := q9.opt (by decide)
  generalize hr8 : opt (m.cl != 0) (8, Pl.numOut m.cl 6) ++ r9 = r8 at *
  have q7 : Hd 6 (opt (m.l != 0) (7, Pl.numOut m.l 6) ++ r8) := q8.opt (by decide)
  generalize hr7 : opt (m.l != 0) (7, Pl.numOut m.l 6) ++ r8 = r7 at *
  have q6 : Hd 5 (opt (m.b != 0) (6, Pl.numOut m.b 6) ++ r7) := q7.opt (by decide)
  generalize hr6 : opt (m.b != 0) (6, Pl.numOut m.b 6) ++ r7 = r6 at *
  have q5 : Hd 4 (opt (m.c != 0) (5, Pl.numOut m.c 6) ++ r6) := q6.opt (by decide)
  generalize hr5 : opt (m.c != 0) (5, Pl.numOut m.c 6) ++ r6 = r5 at *
  have q4 : Hd 3 (opt (m.o != 0) (4, Pl.numOut m.o 6) ++ r5) := q5.opt (by decide)
  generalize hr4 : opt (m.o != 0) (4, Pl.numOut m.o 6) ++ r5 = r4 at *
  have q3 : Hd 2 (opt (m.n != 0) (3, Pl.numOut m.n 6) ++ r4) := q4.opt (by decide)
  generalize hr3 : opt (m.n != 0) (3, Pl.numOut m.n 6) ++ r4 = r3 at *
  have q2 : Hd 1 (opt (m.v != 0) (2, Pl.numOut m.v 6) ++ r3) := q3.opt (by decide)
  generalize hr2 : opt (m.v != 0) (2, Pl.numOut m.v 6) ++ r3 = r2 at *
  have p0 := pNum_opt (t := 1) (z := 1) q2 bk
  have p1 := pNum_opt (t := 2) (z := 6) q3 bv
  have p2 := pNum_opt (t := 3) (z := 6) q4 bn
  have p3 := pNum_opt (t := 4) (z := 6) q5 bo
  have p4 := pNum_opt (t := 5) (z := 6) q6 bc
  have p5 := pNum_opt (t := 6) (z := 6) q7 bb
  have p6 := pNum_opt (t := 7) (z := 6) q8 bl
  have p7 := pNum_opt (t := 8) (z := 6) q9 bcl
  have p8 := pLives_map q10 hlv
  have p9 := pItems_map q11 hit'
  have p10 := pMan_opt q12 hm
  have p11 := pNum_opt (t := 12) (z := 2) q13 bnu
  have p12 := pData_opt (d := m.d)
  have e6 : ((6 : Nat) : Int) = 6 := rfl
  have e2 : ((2 : Nat) : Int) = 2 := rfl
  have e1 : ((1 : Nat) : Int) = 1 := rfl
  rw [e1] at p0
  rw [e6] at p1 p2 p3 p4 p5 p6 p7
  rw [e2] at p11
  rw [hr2] at p1
  rw [hr3] at p2
  rw [hr4] at p3
  rw [hr5] at p4
  rw [hr6] at p5
  rw [hr7] at p6
  rw [hr8] at p7
  rw [hr9] at p8
  rw [hr10] at p9
  rw [hr11] at p10
  rw [hr12] at p11
  rw [hr13] at p12
  unfold pMemo c0
  rw [p0]; simp only [Option.bind_some]
  unfold c1
  rw [p1]; simp only [Option.bind_some]
  unfold c2
  rw [p2]; simp only [Option.bind_some]
  unfold c3
  rw [p3]; simp only [Option.bind_some]
  unfold c4
  rw [p4]; simp only [Option.bind_some]
  unfold c5
  rw [p5]; simp only [Option.bind_some]
  unfold c6
  rw [p6]; simp only [Option.bind_some]
  unfold c7
  rw [p7]; simp only [Option.bind_some]
  unfold c8
  rw [p8]; simp only [Option.bind_some]
  unfold c9
  rw [p9]; simp only [Option.bind_some]
  unfold c10
  rw [p10]; simp only [Option.bind_some]
  unfold c11
  rw [p11]; simp only [Option.bind_some]
  unfold c12
  rw [p12]; simp only [Option.bind_some]
  unfold c13
  rw [if_pos ⟨rfl, h⟩]
theorem pNum_inv {t : Int} {z : Nat} {l r : List (Int × ByteArray)} {a : Int} (h1 : 1 ≤ z) (h7 : z ≤ 7) (h : pNum t z l = some (a, r)) : l = opt (a != 0) (t, Pl.numOut a z) ++ r := by
  match l, h with
  | [], h => simp [pNum] at h; obtain ⟨rfl, rfl⟩ := h; rfl
  | (t', s) :: l, h =>
    simp only [pNum] at h
    split at h
    · rename_i ht
      split at h
      · rename_i hs
        simp only [Option.some.injEq, Prod.mk.injEq] at h
        obtain ⟨rfl, rfl⟩ := h
        have : (Pl.numVal s != 0) = true := by simpa using hs.2
        rw [this, num_forth hs.1 h1 h7, ht]
        rfl
      · cases h
    · simp only [Option.some.injEq, Prod.mk.injEq] at h
      obtain ⟨rfl, rfl⟩ := h
      rfl
theorem pLives_inv : ∀ {l r : List (Int × ByteArray)} {a : List Int}, pLives l = some (a, r) → l = lifeF a ++ r
  | [], r, a, h => by simp [pLives] at h; obtain ⟨rfl, rfl⟩ := h; rfl
  | (t', s) :: l, r, a, h => by
    simp only [pLives] at h
    split at h
    · rename_i ht
      split at h
      · rename_i hs
        cases hq : pLives l with
        | none => rw [hq] at h; cases h
        | some q =>
          rw [hq] at h
          simp only [Option.map_some, Option.some.injEq, Prod.mk.injEq] at h
          obtain ⟨rfl, rfl⟩ := h
          have := pLives_inv (l := l) (r := q.2) (a := q.1) hq
          have e := num_forth hs (by decide) (by decide)
          have e6 : ((6 : Nat) : Int) = 6 := rfl
          rw [e6] at e
          show _ = (9, Pl.numOut (Pl.numVal s) 6) :: (lifeF q.1 ++ q.2)
          rw [e, ← this, ht]
      · cases h
    · simp only [Option.some.injEq, Prod.mk.injEq] at h
      obtain ⟨rfl, rfl⟩ := h
      rfl
theorem pItems_inv : ∀ {l r : List (Int × ByteArray)} {a : List It}, pItems l = some (a, r) → l = itF a ++ r
  | [], r, a, h => by simp [pItems] at h; obtain ⟨rfl, rfl⟩ := h; rfl
  | (t', s) :: l, r, a, h => by
    simp only [pItems] at h
    split at h
    · rename_i ht
      split at h
      · rename_i hs
        cases hq : pItems l with
        | none => rw [hq] at h; cases h
        | some q =>
          rw [hq] at h
          simp only [Option.map_some, Option.some.injEq, Prod.mk.injEq] at h
          obtain ⟨rfl, rfl⟩ := h
          have := pItems_inv (l := l) (r := q.2) (a := q.1) hq
          show _ = (10, itB (itOf s)) :: (itF q.1 ++ q.2)
          rw [itB_itOf hs, ← this, ht]
      · cases h
    · simp only [Option.some.injEq, Prod.mk.injEq] at h
      obtain ⟨rfl, rfl⟩ := h
      rfl
theorem pMan_inv {l r : List (Int × ByteArray)} {a : Int × Int × Int} (h : pMan l = some (a, r)) : l = opt (!manZ a.1 a.2.1 a.2.2) (11, manBy a.1 a.2.1 a.2.2) ++ r := by
  match l, h with
  | [], h => simp [pMan] at h; obtain ⟨rfl, rfl⟩ := h; rfl
  | (t', s) :: l, h =>
    simp only [pMan] at h
    split at h
    · rename_i ht
      split at h
      · rename_i hs
        simp only [Option.some.injEq, Prod.mk.injEq] at h
        obtain ⟨rfl, rfl⟩ := h
        simp only
        rw [hs.2, manBy_of hs.1, ht]
        rfl
      · cases h
    · simp only [Option.some.injEq, Prod.mk.injEq] at h
      obtain ⟨rfl, rfl⟩ := h
      rfl
theorem pData_inv {l r : List (Int × ByteArray)} {a : ByteArray} (h : pData l = some (a, r)) : l = opt (snz a) (13, a) ++ r := by
  match l, h with
  | [], h => simp [pData] at h; obtain ⟨rfl, rfl⟩ := h; rw [snz_nil]; rfl
  | (t', s) :: l, h =>
    simp only [pData] at h
    split at h
    · rename_i ht
      split at h
      · cases h
      · rename_i hs
        simp only [Option.some.injEq, Prod.mk.injEq] at h
        obtain ⟨rfl, rfl⟩ := h
        rw [snz_iff.2 hs, ht]
        rfl
    · simp only [Option.some.injEq, Prod.mk.injEq] at h
      obtain ⟨rfl, rfl⟩ := h
      rw [snz_nil]
      rfl
theorem pMemo_inv {l : List (Int × ByteArray)} {M : Mm} (h : pMemo l = some M) : right M = true ∧ fields M = l := by
  unfold pMemo c0 at h
  obtain ⟨⟨a0, r0⟩, h0, h⟩ := Option.bind_eq_some_iff.1 h
  unfold c1 at h
  obtain ⟨⟨a1, r1⟩, h1, h⟩ := Option.bind_eq_some_iff.1 h
  unfold c2 at h
  obtain ⟨⟨a2, r2⟩, h2, h⟩ := Option.bind_eq_some_iff.1 h
  unfold c3 at h
  obtain ⟨⟨a3, r3⟩, h3, h⟩ := Option.bind_eq_some_iff.1 h
  unfold c4 at h
  obtain ⟨⟨a4, r4⟩, h4, h⟩ := Option.bind_eq_some_iff.1 h
  unfold c5 at h
  obtain ⟨⟨a5, r5⟩, h5, h⟩ := Option.bind_eq_some_iff.1 h
  unfold c6 at h
  obtain ⟨⟨a6, r6⟩, h6, h⟩ := Option.bind_eq_some_iff.1 h
  unfold c7 at h
  obtain ⟨⟨a7, r7⟩, h7, h⟩ := Option.bind_eq_some_iff.1 h
  unfold c8 at h
  obtain ⟨⟨a8, r8⟩, h8, h⟩ := Option.bind_eq_some_iff.1 h
  unfold c9 at h
  obtain ⟨⟨a9, r9⟩, h9, h⟩ := Option.bind_eq_some_iff.1 h
  unfold c10 at h
  obtain ⟨⟨a10, r10⟩, h10, h⟩ := Option.bind_eq_some_iff.1 h
  unfold c11 at h
  obtain ⟨⟨a11, r11⟩, h11, h⟩ := Option.bind_eq_some_iff.1 h
  unfold c12 at h
  obtain ⟨⟨a12, r12⟩, h12, h⟩ := Option.bind_eq_some_iff.1 h
  unfold c13 at h
  split at h
  · rename_i hc
    obtain rfl := Option.some.inj h
    have hr := hc.2
    have hn : r12 = [] := List.eq_nil_of_length_eq_zero hc.1
    refine ⟨hr, ?_⟩
    rw [fields_eq (right_iff.1 hr).1]
    have i0 := pNum_inv (by decide) (by decide) h0
    have i1 := pNum_inv (by decide) (by decide) h1
    have i2 := pNum_inv (by decide) (by decide) h2
    have i3 := pNum_inv (by decide) (by decide) h3
    have i4 := pNum_inv (by decide) (by decide) h4
    have i5 := pNum_inv (by decide) (by decide) h5
    have i6 := pNum_inv (by decide) (by decide) h6
    have i7 := pNum_inv (by decide) (by decide) h7
    have i8 := pLives_inv h8
    have i9 := pItems_inv h9
    have i10 := pMan_inv h10
    have i11 := pNum_inv (by decide) (by decide) h11
    have i12 := pData_inv h12
    simp only at i0 i1 i2 i3 i4 i5 i6 i7 i8 i9 i10 i11 i12
    rw [hn] at i12
    rw [i12] at i11
    rw [i11] at i10
    rw [i10] at i9
    rw [i9] at i8
    rw [i8] at i7
    rw [i7] at i6
    rw [i6] at i5
    rw [i5] at i4
    rw [i4] at i3
    rw [i3] at i2
    rw [i2] at i1
    rw [i1] at i0
    rw [i0]
    rfl
  · cases h
theorem guard_of {s : ByteArray} (h : Po.Pl.ungErr s = 0) : Po.Pl.guardOf (Po.Pl.ungOut s) = s := by
  unfold Po.Pl.ungErr at h
  unfold Po.Pl.ungOut
  split at h
  · cases h
  · rename_i h4
    rw [if_neg h4]
    split at h
    · rename_i hg
      rw [if_pos hg, hg]
    · cases h
theorem whole_inv {s : ByteArray} {m : Mm} (h : pWhole s = some m) : right m = true ∧ packed m = s := by
  unfold pWhole at h
  split at h
  · rename_i hc
    obtain ⟨hr, hf⟩ := pMemo_inv h
    refine ⟨hr, ?_⟩
    unfold packed text
    rw [hf, (Pl.again _ hc.2).2, Pl.txt_toList, guard_of hc.1]
  · cases h
theorem whole_packed {m : Mm} (h : right m = true) : pWhole (packed m) = some m := by
  obtain ⟨h1, h2⟩ := Po.ung_guard (text m)
  have h3 := Pl.unp_encs (fields m) (fields_err h)
  unfold pWhole packed
  rw [h1, h2]
  unfold text
  rw [Pl.txt_data, h3.1, h3.2, if_pos ⟨rfl, rfl⟩, pMemo_fields h]
theorem parse_small : ∀ (f : Nat) (last : Int) (l : List UInt8), ∀ x ∈ (Pl.parse f last l).1, x.2.size ≤ 65535
  | 0, _, _, x, hx => by simp [Pl.parse] at hx
  | f + 1, last, l, x, hx => by
    unfold Pl.parse at hx
    split at hx
    · simp at hx
    · split at hx
      · unfold Pl.join at hx
        split at hx
        · simp only [List.cons_append, List.nil_append, List.mem_cons] at hx
          rcases hx with rfl | hx
          · simp only [Pl.fieldOf, Pl.txt_size, List.length_take]
            have h1 := (l.getD 1 0).toNat_lt
            have h2 := (l.getD 2 0).toNat_lt
            unfold Pl.lenOf
            omega
          · exact parse_small f _ _ x hx
        · simp at hx
      · simp at hx
theorem encs_ge (l : List (Int × ByteArray)) : l.length ≤ (Pl.encs l).length := by
  induction l with
  | nil => simp
  | cons x l ih =>
    rw [Pl.encs_cons, List.length_append, Pl.encOne_length, List.length_cons]
    omega
theorem parse_len (L : List UInt8) : (Pl.unpOut L).length ≤ L.length := by
  by_cases h : Pl.unpErr L = 0
  · have := encs_ge (Pl.unpOut L)
    rw [(Pl.again L h).2] at this
    exact this
  · have : Pl.unpOut L = [] := Pl.parse_err_nil _ _ _ h
    rw [this]
    exact Nat.zero_le _
theorem ung_le (s : ByteArray) : (Po.Pl.ungOut s).size ≤ s.size := by
  unfold Po.Pl.ungOut
  split
  · exact Nat.zero_le _
  · split
    · unfold Po.Pl.body; rw [ByteArray.size_extract]; omega
    · exact Nat.zero_le _
/-- What Unpack answers. -/
def unpM (s : ByteArray) : Mm := if 60000 < s.size then zero else (pWhole s).getD zero
def unpE (s : ByteArray) : Int := if 60000 < s.size then 2 else if (pWhole s).isSome then 0 else 4
theorem unp_packed {m : Mm} (h : right m = true) (hs : (packed m).size ≤ 60000) : unpM (packed m) = m ∧ unpE (packed m) = 0 := by
  unfold unpM unpE
  rw [if_neg (by omega), if_neg (by omega), whole_packed h]
  exact ⟨rfl, rfl⟩
theorem unp_ok {s : ByteArray} (h : unpE s = 0) : right (unpM s) = true ∧ packed (unpM s) = s ∧ s.size ≤ 60000 := by
  unfold unpE at h
  unfold unpM
  split at h
  · cases h
  · rename_i hs
    rw [if_neg hs]
    cases hp : pWhole s with
    | none => rw [hp] at h; cases h
    | some m =>
      obtain ⟨a, b⟩ := whole_inv hp
      exact ⟨a, b, by omega⟩
theorem unp_bad {s : ByteArray} (h : unpE s ≠ 0) : unpM s = zero := by
  unfold unpE at h
  unfold unpM
  split
  · rfl
  · rename_i hs
    rw [if_neg hs] at h
    cases hp : pWhole s with
    | none => rfl
    | some m => rw [hp] at h; exact absurd rfl h
end Me
end Go.Proofs.YtkdhbjmpjbdobaaGreatDoor
/- SPlain -/
namespace Go.Proofs.YtkdhbjmpjbdobaaGreatDoor
set_option maxRecDepth 100000
namespace Sk
open Me

/-- A memo of a kind, a view, an operation, a client and bytes alone. -/
def mk (k v r c : Int) (b : ByteArray) : Mm := ⟨k, v, 0, r, 0, 0, 0, c, [], [], 0, 0, 0, 0, b⟩
theorem mk_right {k v r c : Int} {b : ByteArray} (hk : 1 ≤ k ∧ k ≤ 12) (hv : 0 ≤ v ∧ v ≤ 1099511627776) (hr : 0 ≤ r ∧ r ≤ 1099511627776) (hc : 0 ≤ c ∧ c ≤ 1099511627776) (hb : b.size ≤ 8192) : right (mk k v r c b) = true := by
  refine right_iff.2 ⟨decide_eq_true hk, ?_, by simp [mk, livB], by simp [mk], by simp [mk], by simp [mk, manB, manZ], by simp [mk, nB], hb⟩
  simp only [mk, bigs, List.all_cons, List.all_nil, Bool.and_true, Bool.and_eq_true]
  exact ⟨big_iff.2 hv, big_iff.2 (by omega), big_iff.2 hr, big_iff.2 (by omega), big_iff.2 (by omega), big_iff.2 (by omega), big_iff.2 hc⟩
theorem encs_app (a b : List (Int × ByteArray)) : (Pl.encs (a ++ b)).length = (Pl.encs a).length + (Pl.encs b).length := by
  induction a with
  | nil => simp [Pl.encs]
  | cons x a ih => rw [List.cons_append, Pl.encs_cons, Pl.encs_cons, List.length_append, List.length_append, ih]; omega
theorem encs_one (b : Bool) (x : Int × ByteArray) : (Pl.encs (opt b x)).length ≤ 3 + x.2.size := by
  unfold opt
  cases b
  · simp [Pl.encs]
  · rw [if_pos rfl, Pl.encs_cons, List.length_append, Pl.encOne_length]
    simp [Pl.encs]
theorem six (x : Int) : (Pl.numOut x 6).size ≤ 6 := by simpa using numOut_le x 6 (by omega) (by omega)
theorem mk_small {k v r c : Int} {b : ByteArray} (hb : b.size ≤ 8192) : (packed (mk k v r c b)).size ≤ 9000 ∧ 4 ≤ (packed (mk k v r c b)).size := by
  have e : (packed (mk k v r c b)).size = (Pl.encs (fields (mk k v r c b))).length + 4 := by
    unfold packed text
    rw [Po.Pl.guardOf_size, Pl.txt_size]
  refine ⟨?_, by omega⟩
  have h1 : (Pl.numOut k 1).size ≤ 1 := by simpa using numOut_le k 1 (by omega) (by omega)
  have e1 : (Pl.encs [((1 : Int), Pl.numOut k 1)]).length ≤ 4 := by
    rw [Pl.encs_cons, List.length_append, Pl.encOne_length]
    simp [Pl.encs]
    omega
  have e2 := encs_one (v != 0) (2, Pl.numOut v 6)
  have e3 := encs_one (r != 0) (4, Pl.numOut r 6)
  have e4 := encs_one (c != 0) (8, Pl.numOut c 6)
  have e5 := encs_one (snz b) (13, b)
  have s2 := six v
  have s3 := six r
  have s4 := six c
  have z : ∀ t : Int, (Pl.encs (opt ((0 : Int) != 0) (t, Pl.numOut 0 6))).length = 0 := fun t => by simp [opt, Pl.encs]
  have e6 : (Pl.encs (fields (mk k v r c b))).length ≤ 4 + 9 + 9 + 9 + (3 + b.size) := by
    simp only [fields, g6, g5, g4, g3, g2, g1, mk, bigs, bigF, lifeF, itF, List.map_nil, List.append_nil, encs_app, z]
    simp only [manZ, beq_self_eq_true, Bool.and_self, Bool.not_true, bne_self_eq_false]
    simp only [opt, Bool.false_eq_true, if_false] at e2 e3 e4 e5 ⊢
    simp only [show (Pl.encs ([] : List (Int × ByteArray))).length = 0 from rfl] at *
    simp only [show (2 : Int) + 1 = 3 from rfl, show (3 : Int) + 1 = 4 from rfl, show (4 : Int) + 1 = 5 from rfl, show (5 : Int) + 1 = 6 from rfl, show (6 : Int) + 1 = 7 from rfl, show (7 : Int) + 1 = 8 from rfl]
    omega
  omega
/-- A right memo that is small: its bytes, and the memo that they are. -/
theorem mk_pack {k v r c : Int} {b : ByteArray} (hk : 1 ≤ k ∧ k ≤ 12) (hv : 0 ≤ v ∧ v ≤ 1099511627776) (hr : 0 ≤ r ∧ r ≤ 1099511627776) (hc : 0 ≤ c ∧ c ≤ 1099511627776) (hb : b.size ≤ 8192) :
    packOut (mk k v r c b) = packed (mk k v r c b) ∧ packErr (mk k v r c b) = 0 ∧ unpM (packed (mk k v r c b)) = mk k v r c b ∧ unpE (packed (mk k v r c b)) = 0 ∧ 4 ≤ (packed (mk k v r c b)).size := by
  have hr' := mk_right hk hv hr hc hb
  obtain ⟨h1, h2⟩ := mk_small (k := k) (v := v) (r := r) (c := c) hb
  obtain ⟨h3, h4⟩ := unp_packed hr' (by omega)
  refine ⟨?_, ?_, h3, h4, h2⟩
  · unfold packOut; rw [if_pos hr', if_neg (by omega)]
  · unfold packErr; rw [if_pos hr', if_neg (by omega)]
/-- What any memo's numbers are. -/
theorem unp_nums {s : ByteArray} (h : unpE s = 0) : (0 ≤ (unpM s).v ∧ (unpM s).v ≤ 1099511627776) ∧ (0 ≤ (unpM s).o ∧ (unpM s).o ≤ 1099511627776) ∧ (unpM s).d.size ≤ 8192 := by
  obtain ⟨h1, _, _⟩ := unp_ok h
  obtain ⟨_, h2, _, _, _, _, _, h3⟩ := right_iff.1 h1
  simp only [bigs, List.all_cons, List.all_nil, Bool.and_true, Bool.and_eq_true] at h2
  exact ⟨big_iff.1 h2.1, big_iff.1 h2.2.2.1, h3⟩
end Sk
end Go.Proofs.YtkdhbjmpjbdobaaGreatDoor
/- KPlain -/
namespace Go.Proofs.YtkdhbjmpjbdobaaGreatDoor.Ks
set_option maxRecDepth 100000
namespace Ak

structure Cl where
  k : Int
  no : Int
  gen : Int
  no2 : Int
  gen2 : Int
  nm : ByteArray
  nm2 : ByteArray
  pl : Int
  n : Int
  data : ByteArray

theorem Cl.ext' {a b : Cl} (h1 : a.k = b.k) (h2 : a.no = b.no) (h3 : a.gen = b.gen) (h4 : a.no2 = b.no2) (h5 : a.gen2 = b.gen2) (h6 : a.nm = b.nm) (h7 : a.nm2 = b.nm2) (h8 : a.pl = b.pl) (h9 : a.n = b.n) (h10 : a.data = b.data) : a = b := by
  cases a; cases b; simp only at h1 h2 h3 h4 h5 h6 h7 h8 h9 h10; subst h1; subst h2; subst h3; subst h4; subst h5; subst h6; subst h7; subst h8; subst h9; subst h10; rfl
def zero : Cl := ⟨0, 0, 0, 0, 0, ⟨#[]⟩, ⟨#[]⟩, 0, 0, ⟨#[]⟩⟩
abbrev hokP (no gen : Int) : Prop := (0 ≤ no ∧ no ≤ 255) ∧ (0 ≤ gen ∧ gen ≤ 1099511627776)
def hok (no gen : Int) : Bool := decide (hokP no gen)
abbrev rightP (c : Cl) : Prop := (1 ≤ c.k ∧ c.k ≤ 14) ∧ hokP c.no c.gen ∧ hokP c.no2 c.gen2 ∧ c.nm.size ≤ 255 ∧ c.nm2.size ≤ 255 ∧ (0 ≤ c.pl ∧ c.pl ≤ 4294967295) ∧ (0 ≤ c.n ∧ c.n ≤ 65535) ∧ c.data.size ≤ 1024
def right (c : Cl) : Bool := decide (rightP c)
theorem right_iff {c : Cl} : right c = true ↔ rightP c := by simp [right]
theorem wrong_iff {c : Cl} : right c = false ↔ ¬ rightP c := by simp [right]

def opt (b : Bool) (x : Int × ByteArray) : List (Int × ByteArray) := if b then [x] else []
def hnz (no gen : Int) : Bool := !(no == 0 && gen == 0)
def snz (s : ByteArray) : Bool := !s.toList.isEmpty
def hbytes (no gen : Int) : ByteArray := Pl.numOut no 1 ++ Pl.numOut gen 6
def f1 (c : Cl) : List (Int × ByteArray) := [(1, Pl.numOut c.k 1)]
def f2 (c : Cl) := f1 c ++ opt (hnz c.no c.gen) (2, hbytes c.no c.gen)
def f3 (c : Cl) := f2 c ++ opt (hnz c.no2 c.gen2) (3, hbytes c.no2 c.gen2)
def f4 (c : Cl) := f3 c ++ opt (snz c.nm) (4, c.nm)
def f5 (c : Cl) := f4 c ++ opt (snz c.nm2) (5, c.nm2)
def f6 (c : Cl) := f5 c ++ opt (c.pl != 0) (6, Pl.numOut c.pl 4)
def f7 (c : Cl) := f6 c ++ opt (c.n != 0) (7, Pl.numOut c.n 2)
def fields (c : Cl) := f7 c ++ opt (snz c.data) (8, c.data)

/-- What Pack answers. -/
def packOut (c : Cl) : ByteArray := if right c then Pl.txt (Pl.encs (fields c)) else ⟨#[]⟩
def packErr (c : Cl) : Int := if right c then 0 else 413

/-- A number of a right call, as bytes. -/
theorem num_ok {n : Int} {z : Nat} (h0 : 0 ≤ n) (hz : 1 ≤ z) (h8 : z ≤ 8) (h : n.toNat < 256 ^ z) : Pl.numOut n z = Pl.txt (Pl.digits z n.toNat) := by
  have hb : Pl.numBad n z = false := by
    simp only [Pl.numBad, Bool.or_eq_false_iff, decide_eq_false_iff_not, Int.toNat_natCast]
    refine ⟨by omega, ?_⟩
    rw [Nat.div_eq_of_lt h]
    simp
  simp [Pl.numOut, hb]
theorem num_size {n : Int} {z : Nat} (h0 : 0 ≤ n) (hz : 1 ≤ z) (h8 : z ≤ 8) (h : n.toNat < 256 ^ z) : (Pl.numOut n z).size = z := by
  rw [num_ok h0 hz h8 h, Pl.txt_size, Pl.digits_length]
theorem numOf_acc (l : List UInt8) : ∀ a : Nat, l.foldl (fun n b => 256 * n + b.toNat) a = a * 256 ^ l.length + Pl.numOf l := by
  induction l with
  | nil => intro a; simp [Pl.numOf]
  | cons b l ih =>
    intro a
    have e : Pl.numOf (b :: l) = (256 * 0 + b.toNat) * 256 ^ l.length + Pl.numOf l := ih (256 * 0 + b.toNat)
    rw [List.foldl_cons, ih, e, List.length_cons, Nat.pow_succ, Nat.mul_zero, Nat.zero_add, Nat.add_mul, Nat.mul_comm 256 a, Nat.mul_assoc, Nat.mul_comm 256, Nat.add_assoc]
theorem numOf_cons (b : UInt8) (l : List UInt8) : Pl.numOf (b :: l) = b.toNat * 256 ^ l.length + Pl.numOf l := by
  have e : Pl.numOf (b :: l) = l.foldl (fun n b => 256 * n + b.toNat) (256 * 0 + b.toNat) := rfl
  rw [e, numOf_acc, Nat.mul_zero, Nat.zero_add]
theorem numOf_digits (z : Nat) : ∀ m : Nat, Pl.numOf (Pl.digits z m) = m % 256 ^ z := by
  induction z with
  | zero => intro m; simp [Pl.digits, Pl.numOf, Nat.mod_one]
  | succ z ih =>
    intro m
    have e : (UInt8.ofNat (m / 256 ^ z % 256)).toNat = m / 256 ^ z % 256 := by rw [UInt8.toNat_ofNat']; omega
    rw [Pl.digits_succ, numOf_cons, ih, Pl.digits_length, e, Nat.pow_succ, Nat.mod_mul, Nat.mul_comm (256 ^ z) (m / 256 ^ z % 256), Nat.add_comm]
/-- A number read again. -/
theorem val_num {n : Int} {z : Nat} (h0 : 0 ≤ n) (hz : 1 ≤ z) (h7 : z ≤ 7) (h : n.toNat < 256 ^ z) : Pl.numVal (Pl.numOut n z) = n := by
  have hs := num_size h0 hz (by omega) h
  have h1 : Pl.sNum (Pl.numOut n z) = false := by simp only [Pl.sNum, hs, decide_eq_false_iff_not]; omega
  have h2 : Pl.fNum (Pl.numOut n z) = false := by
    have : decide (z = 8) = false := decide_eq_false (by omega)
    simp [Pl.fNum, hs, this]
  unfold Pl.numVal
  rw [h1, h2, num_ok h0 hz (by omega) h, Pl.txt_data, numOf_digits, Nat.mod_eq_of_lt h]
  simp
  omega

/-- The handle that bytes are. -/
def hno (s : ByteArray) : Int := if s.size = 7 then Pl.numVal (s.extract 0 1) else 0
def hgen (s : ByteArray) : Int := if s.size = 7 then Pl.numVal (s.extract 1 7) else 0
theorem hok_of {no gen : Int} (h : hokP no gen) : 0 ≤ no ∧ no.toNat < 256 ^ 1 ∧ 0 ≤ gen ∧ gen.toNat < 256 ^ 6 := by
  obtain ⟨⟨a, b⟩, c, d⟩ := h
  exact ⟨a, by omega, c, by omega⟩
theorem hbytes_size {no gen : Int} (h : hokP no gen) : (hbytes no gen).size = 7 := by
  obtain ⟨a, b, c, d⟩ := hok_of h
  unfold hbytes
  have h1 := num_size (z := 1) a (by omega) (by omega) b
  have h2 := num_size (z := 6) c (by omega) (by omega) d
  rw [ByteArray.size_append]
  have e1 : Pl.numOut no 1 = Pl.numOut no ((1 : Nat) : Int) := rfl
  have e2 : Pl.numOut gen 6 = Pl.numOut gen ((6 : Nat) : Int) := rfl
  rw [e1, e2, h1, h2]
theorem extract_left (a b : ByteArray) (n : Nat) (h : a.size = n) : (a ++ b).extract 0 n = a := by
  subst h
  rw [Pl.extract_txt]
  have : (a ++ b).data.toList = a.data.toList ++ b.data.toList := by simp [ByteArray.data_append]
  rw [this, List.drop_zero, List.take_append_of_le_length (by simp), List.take_of_length_le (by simp), Pl.txt_toList]
theorem extract_right (a b : ByteArray) (n m : Nat) (h : a.size = n) (hm : a.size + b.size ≤ m) : (a ++ b).extract n m = b := by
  subst h
  rw [Pl.extract_txt]
  have : (a ++ b).data.toList = a.data.toList ++ b.data.toList := by simp [ByteArray.data_append]
  have hl : a.size = a.data.toList.length := by simp
  rw [this, hl, List.drop_left, List.take_of_length_le (by simp; have : b.data.size = b.size := rfl; have h2 : a.data.size = a.size := rfl; omega), Pl.txt_toList]
theorem hback {no gen : Int} (h : hokP no gen) : hno (hbytes no gen) = no ∧ hgen (hbytes no gen) = gen := by
  have hs := hbytes_size h
  obtain ⟨a, b, c, d⟩ := hok_of h
  have h1 : (Pl.numOut no 1).size = 1 := num_size (z := 1) a (by omega) (by omega) b
  have h2 : (Pl.numOut gen 6).size = 6 := num_size (z := 6) c (by omega) (by omega) d
  unfold hno hgen
  rw [if_pos hs, if_pos hs]
  unfold hbytes
  rw [extract_left _ _ 1 h1, extract_right _ _ 1 7 h1 (by omega)]
  exact ⟨val_num (z := 1) a (by omega) (by omega) b, val_num (z := 6) c (by omega) (by omega) d⟩

/-- A call with what a field says. -/
def withF (c : Cl) (x : Int × ByteArray) : Cl :=
  if x.1 = 1 then { c with k := Pl.numVal x.2 }
  else if x.1 = 2 then { c with no := hno x.2, gen := hgen x.2 }
  else if x.1 = 3 then { c with no2 := hno x.2, gen2 := hgen x.2 }
  else if x.1 = 4 then { c with nm := x.2 }
  else if x.1 = 5 then { c with nm2 := x.2 }
  else if x.1 = 6 then { c with pl := Pl.numVal x.2 }
  else if x.1 = 7 then { c with n := Pl.numVal x.2 }
  else if x.1 = 8 then { c with data := x.2 }
  else c
def callOf (l : List (Int × ByteArray)) : Cl := l.foldl withF zero

/-- The value of a tag: the last one. -/
def lastOf (l : List (Int × ByteArray)) (t : Int) : ByteArray := l.foldl (fun s x => if x.1 = t then x.2 else s) ⟨#[]⟩
theorem lastOf_snoc (l : List (Int × ByteArray)) (x : Int × ByteArray) (t : Int) : lastOf (l ++ [x]) t = if x.1 = t then x.2 else lastOf l t := by simp [lastOf]
theorem callOf_snoc (l : List (Int × ByteArray)) (x : Int × ByteArray) : callOf (l ++ [x]) = withF (callOf l) x := by simp [callOf]
def refOf (l : List (Int × ByteArray)) : Cl := ⟨Pl.numVal (lastOf l 1), hno (lastOf l 2), hgen (lastOf l 2), hno (lastOf l 3), hgen (lastOf l 3), lastOf l 4, lastOf l 5, Pl.numVal (lastOf l 6), Pl.numVal (lastOf l 7), lastOf l 8⟩
theorem rev_ind {α : Type} {p : List α → Prop} (h0 : p []) (h1 : ∀ l x, p l → p (l ++ [x])) (l : List α) : p l := by
  have : ∀ m : List α, p m.reverse := by
    intro m
    induction m with
    | nil => exact h0
    | cons x m ih => rw [List.reverse_cons]; exact h1 _ _ ih
  have := this l.reverse
  rwa [List.reverse_reverse] at this
theorem refOf_eq (l : List (Int × ByteArray)) : refOf l = callOf l := by
  induction l using rev_ind with
  | h0 => rfl
  | h1 l x ih =>
    rw [callOf_snoc, ← ih]
    unfold refOf withF
    simp only [lastOf_snoc]
    by_cases h1 : x.1 = 1
    · simp [h1]
    by_cases h2 : x.1 = 2
    · simp [h2]
    by_cases h3 : x.1 = 3
    · simp [h3]
    by_cases h4 : x.1 = 4
    · simp [h4]
    by_cases h5 : x.1 = 5
    · simp [h5]
    by_cases h6 : x.1 = 6
    · simp [h6]
    by_cases h7 : x.1 = 7
    · simp [h7]
    by_cases h8 : x.1 = 8
    · simp [h8]
    simp [h1, h2, h3, h4, h5, h6, h7, h8]

/-- What Unpack answers. -/
def isCall (L : List UInt8) : Bool := decide (Pl.unpErr L = 0) && right (callOf (Pl.unpOut L)) && decide (Pl.encs (fields (callOf (Pl.unpOut L))) = L)
def unpC (L : List UInt8) : Cl := if isCall L then callOf (Pl.unpOut L) else zero
def unpE (L : List UInt8) : Int := if isCall L then 0 else 413
end Ak
end Go.Proofs.YtkdhbjmpjbdobaaGreatDoor.Ks
