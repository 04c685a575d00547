/-
  Memos as plain data (no program): which are right, their fields, their bytes.
-/
import Derived.Test.YtlmoibicepppmaaDoorPlainK
import Derived.Test.YtlmoibicepppmaaDoorPlainB
import Derived.Test.YtlmoibicepppmaaDoorPlainP
import Derived.Test.YtlmoibicepppmaaDoorPGuard
namespace Go.Proofs.YtlmoibicepppmaaDoor
set_option maxRecDepth 100000
namespace Me
structure It where
  v : Int
  c : Int
  r : Int
  b : ByteArray
structure Mm where
  k : Int
  v : Int
  n : Int
  o : Int
  c : Int
  b : Int
  l : Int
  cl : Int
  lives : List Int
  items : List It
  mo : Int
  ms : Int
  mm : Int
  nu : Int
  d : ByteArray
def zero : Mm := ⟨0, 0, 0, 0, 0, 0, 0, 0, [], [], 0, 0, 0, 0, ⟨#[]⟩⟩
def bigB (x : Int) : Bool := decide (0 ≤ x ∧ x ≤ 1099511627776)
def okIt (x : It) : Bool := decide ((0 ≤ x.v ∧ x.v ≤ 1099511627776) ∧ (0 ≤ x.c ∧ x.c ≤ 1099511627776) ∧ (1 ≤ x.r ∧ x.r ≤ 1099511627776) ∧ x.b.size ≤ 4096)
def bigs (m : Mm) : List Int := [m.v, m.n, m.o, m.c, m.b, m.l, m.cl]
def livB (l : List Int) : Bool := decide (l.length = 0) || (decide (l.length ≤ 7) && (decide (l.length % 2 = 1) && l.all bigB))
def manZ (o s m : Int) : Bool := o == 0 && (s == 0 && m == 0)
def manR (o s m : Int) : Bool := decide ((0 ≤ o ∧ o ≤ 1099511627776) ∧ (1 ≤ s ∧ s ≤ 65535) ∧ (0 ≤ m ∧ m ≤ 4294967295))
def manB (o s m : Int) : Bool := manZ o s m || manR o s m
def kB (k : Int) : Bool := decide (1 ≤ k ∧ k ≤ 12)
def nB (n : Int) : Bool := decide (0 ≤ n ∧ n ≤ 65535)
def right (m : Mm) : Bool := kB m.k && ((bigs m).all bigB && (livB m.lives && (decide (m.items.length ≤ 256) && (m.items.all okIt && (manB m.mo m.ms m.mm && (nB m.nu && decide (m.d.size ≤ 8192)))))))
def opt (b : Bool) (x : Int × ByteArray) : List (Int × ByteArray) := if b then [x] else []
def snz (s : ByteArray) : Bool := !s.toList.isEmpty
def bigF : List Int → Int → List (Int × ByteArray)
  | [], _ => []
  | x :: l, t => opt (x != 0) (t, Pl.numOut x 6) ++ bigF l (t + 1)
def lifeF (l : List Int) : List (Int × ByteArray) := l.map fun x => (9, Pl.numOut x 6)
def itB (x : It) : ByteArray := Pl.numOut x.v 6 ++ Pl.numOut x.c 6 ++ Pl.numOut x.r 6 ++ x.b
def itF (l : List It) : List (Int × ByteArray) := l.map fun x => (10, itB x)
def manBy (o s m : Int) : ByteArray := Pl.numOut o 6 ++ Pl.numOut s 2 ++ Pl.numOut m 4
def g1 (m : Mm) : List (Int × ByteArray) := [(1, Pl.numOut m.k 1)]
def g2 (m : Mm) := g1 m ++ bigF (bigs m) 2
def g3 (m : Mm) := g2 m ++ lifeF m.lives
def g4 (m : Mm) := g3 m ++ itF m.items
def g5 (m : Mm) := g4 m ++ opt (!manZ m.mo m.ms m.mm) (11, manBy m.mo m.ms m.mm)
def g6 (m : Mm) := g5 m ++ opt (m.nu != 0) (12, Pl.numOut m.nu 2)
def fields (m : Mm) := g6 m ++ opt (snz m.d) (13, m.d)
def text (m : Mm) : ByteArray := Pl.txt (Pl.encs (fields m))
def packed (m : Mm) : ByteArray := Po.Pl.guardOf (text m)
def packOut (m : Mm) : ByteArray := if right m then (if 60000 < (packed m).size then ⟨#[]⟩ else packed m) else ⟨#[]⟩
def packErr (m : Mm) : Int := if right m then (if 60000 < (packed m).size then 2 else 0) else 4
theorem right_iff {m : Mm} : right m = true ↔ kB m.k = true ∧ (bigs m).all bigB = true ∧ livB m.lives = true ∧ m.items.length ≤ 256 ∧ m.items.all okIt = true ∧ manB m.mo m.ms m.mm = true ∧ nB m.nu = true ∧ m.d.size ≤ 8192 := by
  unfold right
  simp only [Bool.and_eq_true, decide_eq_true_eq]
theorem big_iff {x : Int} : bigB x = true ↔ 0 ≤ x ∧ x ≤ 1099511627776 := by simp [bigB]
/-- What is a number of so many bytes at most. -/
theorem numOut_le (n z : Int) (_ : 0 ≤ z) (_ : z ≤ 8) : (Pl.numOut n z).size ≤ z.toNat := by
  unfold Pl.numOut
  split
  · rw [Pl.txt_size]; exact Nat.zero_le _
  · rw [Pl.txt_size, Pl.digits_length]; exact Nat.le_refl _
/-- Fields whose tags do not fall from lo on. -/
theorem err_mono : ∀ {l : List (Int × ByteArray)} {lo hi : Int}, lo ≤ hi → Pl.packErr hi l = 0 → Pl.packErr lo l = 0
  | [], _, _, _, _ => rfl
  | x :: l, lo, hi, h, he => by
    unfold Pl.packErr at he ⊢
    by_cases hb : Pl.badAt hi x = 0
    · rw [if_pos hb] at he
      have : Pl.badAt lo x = 0 := by
        unfold Pl.badAt at hb ⊢
        split at hb
        · cases hb
        · rename_i h1
          rw [if_neg h1]
          split at hb
          · cases hb
          · rename_i h2
            rw [if_neg h2]
            split at hb
            · cases hb
            · rw [if_neg (by omega)]
      rw [if_pos this]
      exact he
    · rw [if_neg hb] at he
      exact absurd he hb
theorem err_append : ∀ {a b : List (Int × ByteArray)} {lo hi : Int}, lo ≤ hi → Pl.packErr lo a = 0 → (∀ x ∈ a, x.1 ≤ hi) → Pl.packErr hi b = 0 → Pl.packErr lo (a ++ b) = 0
  | [], b, lo, hi, h, _, _, hb => err_mono h hb
  | x :: a, b, lo, hi, h, ha, hx, hb => by
    rw [List.cons_append]
    unfold Pl.packErr at ha ⊢
    by_cases h1 : Pl.badAt lo x = 0
    · rw [if_pos h1] at ha ⊢
      exact err_append (hx x (by simp)) ha (fun y hy => hx y (by simp [hy])) hb
    · rw [if_neg h1] at ha
      exact absurd ha h1
theorem err_one {t lo : Int} {s : ByteArray} (h1 : 1 ≤ t) (h2 : t ≤ 255) (h3 : lo ≤ t) (hs : s.size ≤ 65535) : Pl.packErr lo [(t, s)] = 0 := by
  have : Pl.badAt lo (t, s) = 0 := by
    unfold Pl.badAt
    simp only
    rw [if_neg (by omega), if_neg (by omega), if_neg (by omega)]
  simp [Pl.packErr, this]
theorem err_opt {t lo : Int} {s : ByteArray} (b : Bool) (h1 : 1 ≤ t) (h2 : t ≤ 255) (h3 : lo ≤ t) (hs : s.size ≤ 65535) : Pl.packErr lo (opt b (t, s)) = 0 := by
  cases b
  · rfl
  · exact err_one h1 h2 h3 hs
theorem mem_opt {b : Bool} {x y : Int × ByteArray} (h : y ∈ opt b x) : y = x := by
  cases b
  · cases h
  · simpa [opt] using h
theorem err_all {t : Int} (h1 : 1 ≤ t) (h2 : t ≤ 255) : ∀ {l : List (Int × ByteArray)}, (∀ x ∈ l, x.1 = t ∧ x.2.size ≤ 65535) → Pl.packErr t l = 0
  | [], _ => rfl
  | (u, s) :: l, h => by
    obtain ⟨rfl, hs⟩ := h (u, s) (by simp)
    simp only at hs
    have : Pl.badAt u (u, s) = 0 := by
      unfold Pl.badAt
      simp only
      rw [if_neg (by omega), if_neg (by omega), if_neg (by omega)]
    unfold Pl.packErr
    rw [if_pos this]
    exact err_all h1 h2 fun x hx => h x (by simp [hx])
theorem bigF_tag : ∀ {l : List Int} {t : Int} {x : Int × ByteArray}, x ∈ bigF l t → t ≤ x.1 ∧ x.1 < t + l.length ∧ x.2.size ≤ 6
  | [], _, _, h => by cases h
  | y :: l, t, x, h => by
    unfold bigF at h
    rw [List.length_cons]
    rcases List.mem_append.1 h with h | h
    · obtain rfl := mem_opt h
      exact ⟨Int.le_refl _, by omega, numOut_le y 6 (by decide) (by decide)⟩
    · have := bigF_tag h
      omega
theorem bigF_err : ∀ {l : List Int} {t : Int}, 1 ≤ t → t + l.length ≤ 255 → Pl.packErr t (bigF l t) = 0
  | [], _, _, _ => rfl
  | y :: l, t, h1, h2 => by
    rw [List.length_cons] at h2
    unfold bigF
    refine err_append (hi := t) (Int.le_refl _) (err_opt _ h1 (by omega) (Int.le_refl _) (Nat.le_trans (numOut_le y 6 (by decide) (by decide)) (by decide))) (fun x hx => by rw [mem_opt hx]; exact Int.le_refl _) ?_
    exact err_mono (by omega) (bigF_err (l := l) (t := t + 1) (by omega) (by omega))
theorem itB_size {x : It} (h : okIt x = true) : (itB x).size ≤ 4114 := by
  unfold itB
  simp only [ByteArray.size_append]
  have h1 := numOut_le x.v 6 (by decide) (by decide)
  have h2 := numOut_le x.c 6 (by decide) (by decide)
  have h3 := numOut_le x.r 6 (by decide) (by decide)
  simp only [okIt, decide_eq_true_eq] at h
  have e : (6 : Int).toNat = 6 := rfl
  omega
theorem manBy_size (o s m : Int) : (manBy o s m).size ≤ 12 := by
  unfold manBy
  simp only [ByteArray.size_append]
  have h1 := numOut_le o 6 (by decide) (by decide)
  have h2 := numOut_le s 2 (by decide) (by decide)
  have h3 := numOut_le m 4 (by decide) (by decide)
  have e1 : (6 : Int).toNat = 6 := rfl
  have e2 : (2 : Int).toNat = 2 := rfl
  have e3 : (4 : Int).toNat = 4 := rfl
  omega
theorem fields_tag {m : Mm} (hr : right m = true) {x : Int × ByteArray} (h : x ∈ fields m) : x.2.size ≤ 8192 := by
  obtain ⟨_, _, _, _, h5, _, _, h8⟩ := right_iff.1 hr
  unfold fields g6 g5 g4 g3 g2 g1 at h
  simp only [List.mem_append, List.mem_singleton] at h
  rcases h with (((((rfl | h) | h) | h) | h) | h) | h
  · exact Nat.le_trans (numOut_le m.k 1 (by decide) (by decide)) (by decide)
  · have := (bigF_tag h).2.2; omega
  · obtain ⟨y, _, rfl⟩ := List.mem_map.1 h
    exact Nat.le_trans (numOut_le y 6 (by decide) (by decide)) (by decide)
  · obtain ⟨y, hy, rfl⟩ := List.mem_map.1 h
    have := itB_size (List.all_eq_true.1 h5 y hy)
    show (itB y).size ≤ 8192
    omega
  · obtain rfl := mem_opt h
    have := manBy_size m.mo m.ms m.mm
    show (manBy m.mo m.ms m.mm).size ≤ 8192
    omega
  · obtain rfl := mem_opt h
    exact Nat.le_trans (numOut_le m.nu 2 (by decide) (by decide)) (by decide)
  · obtain rfl := mem_opt h
    exact h8
theorem fields_err {m : Mm} (hr : right m = true) : Pl.packErr 1 (fields m) = 0 := by
  obtain ⟨_, _, _, _, h5, _, _, h8⟩ := right_iff.1 hr
  have n6 : ∀ y : Int, (Pl.numOut y 6).size ≤ 65535 := fun y => Nat.le_trans (numOut_le y 6 (by decide) (by decide)) (by decide)
  have e1 : Pl.packErr 1 (g1 m) = 0 := err_one (by decide) (by decide) (by decide) (Nat.le_trans (numOut_le m.k 1 (by decide) (by decide)) (by decide))
  have t1 : ∀ x ∈ g1 m, x.1 ≤ 1 := fun x hx => by simp only [g1, List.mem_singleton] at hx; subst hx; exact Int.le_refl _
  have e2 : Pl.packErr 1 (g2 m) = 0 := err_append (hi := 2) (by decide) e1 (fun x hx => by have := t1 x hx; omega) (bigF_err (by decide) (by simp [bigs]))
  have t2 : ∀ x ∈ g2 m, x.1 ≤ 8 := fun x hx => by
    rcases List.mem_append.1 hx with hx | hx
    · have := t1 x hx; omega
    · have := bigF_tag hx; simp [bigs] at this; omega
  have e3 : Pl.packErr 1 (g3 m) = 0 := err_append (hi := 9) (by decide) e2 (fun x hx => by have := t2 x hx; omega) (err_all (by decide) (by decide) fun x hx => by obtain ⟨y, _, rfl⟩ := List.mem_map.1 hx; exact ⟨rfl, n6 y⟩)
  have t3 : ∀ x ∈ g3 m, x.1 ≤ 9 := fun x hx => by
    rcases List.mem_append.1 hx with hx | hx
    · have := t2 x hx; omega
    · obtain ⟨y, _, rfl⟩ := List.mem_map.1 hx; exact Int.le_refl _
  have e4 : Pl.packErr 1 (g4 m) = 0 := err_append (hi := 10) (by decide) e3 (fun x hx => by have := t3 x hx; omega) (err_all (by decide) (by decide) fun x hx => by
    obtain ⟨y, hy, rfl⟩ := List.mem_map.1 hx
    exact ⟨rfl, Nat.le_trans (itB_size (List.all_eq_true.1 h5 y hy)) (by decide)⟩)
  have t4 : ∀ x ∈ g4 m, x.1 ≤ 10 := fun x hx => by
    rcases List.mem_append.1 hx with hx | hx
    · have := t3 x hx; omega
    · obtain ⟨y, _, rfl⟩ := List.mem_map.1 hx; exact Int.le_refl _
  have e5 : Pl.packErr 1 (g5 m) = 0 := err_append (hi := 11) (by decide) e4 (fun x hx => by have := t4 x hx; omega) (err_opt _ (by decide) (by decide) (by decide) (Nat.le_trans (manBy_size _ _ _) (by decide)))
  have t5 : ∀ x ∈ g5 m, x.1 ≤ 11 := fun x hx => by
    rcases List.mem_append.1 hx with hx | hx
    · have := t4 x hx; omega
    · rw [mem_opt hx]; exact Int.le_refl _
  have e6 : Pl.packErr 1 (g6 m) = 0 := err_append (hi := 12) (by decide) e5 (fun x hx => by have := t5 x hx; omega) (err_opt _ (by decide) (by decide) (by decide) (Nat.le_trans (numOut_le m.nu 2 (by decide) (by decide)) (by decide)))
  have t6 : ∀ x ∈ g6 m, x.1 ≤ 12 := fun x hx => by
    rcases List.mem_append.1 hx with hx | hx
    · have := t5 x hx; omega
    · rw [mem_opt hx]; exact Int.le_refl _
  exact err_append (hi := 13) (by decide) e6 (fun x hx => by have := t6 x hx; omega) (err_opt _ (by decide) (by decide) (by decide) (by omega))
theorem opt_len (b : Bool) (x : Int × ByteArray) : (opt b x).length ≤ 1 := by cases b <;> simp [opt]
theorem bigF_len : ∀ (l : List Int) (t : Int), (bigF l t).length ≤ l.length
  | [], _ => Nat.le_refl _
  | y :: l, t => by
    unfold bigF
    have := bigF_len l (t + 1)
    have := opt_len (y != 0) (t, Pl.numOut y 6)
    rw [List.length_append, List.length_cons]
    omega
theorem liv_len {l : List Int} (h : livB l = true) : l.length ≤ 7 := by
  unfold livB at h
  simp only [Bool.or_eq_true, Bool.and_eq_true, decide_eq_true_eq] at h
  omega
theorem fields_len {m : Mm} (hr : right m = true) : (fields m).length ≤ 280 ∧ (g6 m).length ≤ 280 ∧ (g5 m).length ≤ 280 ∧ (g4 m).length ≤ 280 ∧ (g3 m).length ≤ 15 ∧ (g2 m).length ≤ 8 := by
  obtain ⟨_, _, h3, h4, _⟩ := right_iff.1 hr
  have l2 := bigF_len (bigs m) 2
  have l3 := liv_len h3
  have l5 := opt_len (!manZ m.mo m.ms m.mm) (11, manBy m.mo m.ms m.mm)
  have l6 := opt_len (m.nu != 0) (12, Pl.numOut m.nu 2)
  have l7 := opt_len (snz m.d) (13, m.d)
  have e2 : (g2 m).length = 1 + (bigF (bigs m) 2).length := by simp [g2, g1]; omega
  have e3 : (g3 m).length = (g2 m).length + m.lives.length := by simp [g3, lifeF]
  have e4 : (g4 m).length = (g3 m).length + m.items.length := by simp [g4, itF]
  have e5 : (g5 m).length = (g4 m).length + (opt (!manZ m.mo m.ms m.mm) (11, manBy m.mo m.ms m.mm)).length := by simp [g5]
  have e6 : (g6 m).length = (g5 m).length + (opt (m.nu != 0) (12, Pl.numOut m.nu 2)).length := by simp [g6]
  have e7 : (fields m).length = (g6 m).length + (opt (snz m.d) (13, m.d)).length := by simp [fields]
  have hb : (bigs m).length = 7 := rfl
  rw [hb] at l2
  omega
theorem encs_le {l : List (Int × ByteArray)} (h : ∀ x ∈ l, x.2.size ≤ 8192) : (Pl.encs l).length ≤ l.length * 8195 := by
  induction l with
  | nil => simp [Pl.encs]
  | cons x l ih =>
    have := ih fun y hy => h y (by simp [hy])
    have h1 := h x (by simp)
    have e : (Pl.encs (x :: l)).length = (Pl.encOne x).length + (Pl.encs l).length := by simp [Pl.encs]
    have e2 : (Pl.encOne x).length = 3 + x.2.size := Pl.encOne_length x
    rw [e, e2, List.length_cons]
    omega
theorem encs_small {m : Mm} (hr : right m = true) : (Pl.encs (fields m)).length ≤ 2294600 := by
  have h1 := encs_le (l := fields m) fun x hx => fields_tag hr hx
  have h2 := (fields_len hr).1
  have : (fields m).length * 8195 ≤ 280 * 8195 := Nat.mul_le_mul_right _ h2
  omega
theorem tlv_out {m : Mm} (hr : right m = true) : Pl.packOut (fields m) = text m := by rw [Pl.packOut, fields_err hr, if_pos rfl]; rfl
theorem text_size {m : Mm} (hr : right m = true) : (text m).size ≤ 2294600 := by unfold text; rw [Pl.txt_size]; exact encs_small hr
end Me
end Go.Proofs.YtlmoibicepppmaaDoor
