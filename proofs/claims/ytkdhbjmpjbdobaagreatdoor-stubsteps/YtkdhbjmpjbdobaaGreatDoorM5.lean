/-
  The texts WBase, as one.
-/
import Derived.Test.YtkdhbjmpjbdobaaGreatDoorRows
import Derived.WalkKit
import Derived.WalkSpells
import Derived.WalkLawsBesides
import Derived.ProofKit
import Derived.BigQuiet
import Derived.Deep.QuietTactic
import Derived.Deep.RegionHeld3
import Derived.Deep.SlicePairs
import Derived.Test.YtkdhbjmpjbdobaaGreatDoorM4
/- WBase -/
namespace Go.Proofs.YtkdhbjmpjbdobaaGreatDoor
open Go.ChangeShapes Go.WideShapes Go.ChangeAt Go.RowKit Go.Deep Me
set_option maxRecDepth 100000
theorem bup {w w1 w2 : World} (h1 : Below w.heap.size w w1) (h2 : Below w1.heap.size w1 w2) : Below w.heap.size w w2 := h1.trans (h2.mono h1.size)
theorem below_alloc (w : World) (o : Obj) : Below w.heap.size w (w.alloc o) := (Below.refl _ _).alloc (Nat.le_refl _) _
theorem bel_drew {B : Nat} {w w' : World} (h : Below B w w') : Below B w w'.drew := ⟨h.os, h.tape, h.output, h.size, h.block⟩
theorem cell_older {w1 : World} {p : Nat} (hp : p < w1.heap.size) (o : Obj) (j : Nat) : (w1.alloc o).cell? ⟨p, j, none⟩ = w1.cell? ⟨p, j, none⟩ := ((Below.refl w1.heap.size w1).alloc (Nat.le_refl _) o).cell (p := ⟨p, j, none⟩) hp
theorem blk {w w' : World} {b : Nat} {o : Obj} (h : w.heap[b]? = some o) (hb : Below w.heap.size w w') : w'.heap[b]? = some o := (hb.block b (Array.getElem?_eq_some_iff.1 h).1).trans h
def EI : Enc Int := { sz := 1, cells := fun x => [.int .i64 x], len := fun _ => rfl, one := fun x u hu => by simp at hu; subst hu; rfl }
def EM : Enc It := { sz := 4, cells := fun x => [.int .i64 x.v, .int .i64 x.c, .int .i64 x.r, .string x.b], len := fun _ => rfl, one := fun x u hu => by simp at hu; rcases hu with rfl | rfl | rfl | rfl <;> rfl }
abbrev VI (x : It) : Value := .agg #[.int .i64 x.v, .int .i64 x.c, .int .i64 x.r, .string x.b]
abbrev BI (x : It) : Obj := .cells #[.int .i64 x.v, .int .i64 x.c, .int .i64 x.r, .string x.b] 137
abbrev VM (m : Mm) (u z : Value) : Value := .agg #[.int .i64 m.k, .int .i64 m.v, .int .i64 m.n, .int .i64 m.o, .int .i64 m.c, .int .i64 m.b, .int .i64 m.l, .int .i64 m.cl, u, z, .int .i64 m.mo, .int .i64 m.ms, .int .i64 m.mm, .int .i64 m.nu, .string m.d]
abbrev BM (m : Mm) (u z : Value) : Obj := .cells #[.int .i64 m.k, .int .i64 m.v, .int .i64 m.n, .int .i64 m.o, .int .i64 m.c, .int .i64 m.b, .int .i64 m.l, .int .i64 m.cl, u, z, .int .i64 m.mo, .int .i64 m.ms, .int .i64 m.mm, .int .i64 m.nu, .string m.d] 71
abbrev VMan (o s m : Int) : Value := .agg #[.int .i64 o, .int .i64 s, .int .i64 m]
theorem it_of {w : World} {A : Nat} {x : It} (h : w.heap[A]? = some (BI x)) : w.cell? ⟨A, 0, none⟩ = some (.int .i64 x.v) ∧ w.cell? ⟨A, 1, none⟩ = some (.int .i64 x.c) ∧ w.cell? ⟨A, 2, none⟩ = some (.int .i64 x.r) ∧ w.cell? ⟨A, 3, none⟩ = some (.string x.b) := by
  refine ⟨?_, ?_, ?_, ?_⟩ <;> simp [World.cell?, h]
theorem mm_of {w : World} {A : Nat} {m : Mm} {u z : Value} (h : w.heap[A]? = some (BM m u z)) : w.cell? ⟨A, 0, none⟩ = some (.int .i64 m.k) ∧ w.cell? ⟨A, 1, none⟩ = some (.int .i64 m.v) ∧ w.cell? ⟨A, 2, none⟩ = some (.int .i64 m.n) ∧ w.cell? ⟨A, 3, none⟩ = some (.int .i64 m.o) ∧ w.cell? ⟨A, 4, none⟩ = some (.int .i64 m.c) ∧ w.cell? ⟨A, 5, none⟩ = some (.int .i64 m.b) ∧ w.cell? ⟨A, 6, none⟩ = some (.int .i64 m.l) ∧ w.cell? ⟨A, 7, none⟩ = some (.int .i64 m.cl) ∧ w.cell? ⟨A, 8, none⟩ = some (u) ∧ w.cell? ⟨A, 9, none⟩ = some (z) ∧ w.cell? ⟨A, 10, none⟩ = some (.int .i64 m.mo) ∧ w.cell? ⟨A, 11, none⟩ = some (.int .i64 m.ms) ∧ w.cell? ⟨A, 12, none⟩ = some (.int .i64 m.mm) ∧ w.cell? ⟨A, 13, none⟩ = some (.int .i64 m.nu) ∧ w.cell? ⟨A, 14, none⟩ = some (.string m.d) := by
  refine ⟨?_, ?_, ?_, ?_, ?_, ?_, ?_, ?_, ?_, ?_, ?_, ?_, ?_, ?_, ?_⟩ <;> simp [World.cell?, h]
structure MAt (w : World) (m : Mm) (u z : Value) : Prop where
  lives : AtW EI w u m.lives
  items : AtW EM w z m.items
theorem MAt.up {w w' : World} {m : Mm} {u z : Value} (h : MAt w m u z) (hb : Below w.heap.size w w') : MAt w' m u z := ⟨h.lives.up hb, h.items.up hb⟩
theorem wiB (lo y hi : Int) (w : World) : Calls Tryz.prog 78 #[.int .i64 lo, .int .i64 y, .int .i64 hi] w fun e w' => e = .returned (.bool (decide (lo ≤ y ∧ y ≤ hi))) ∧ w' = w := by
  by_cases h1 : lo ≤ y
  · by_cases h2 : y ≤ hi
    · rw [decide_eq_true (show lo ≤ y ∧ y ≤ hi from ⟨h1, h2⟩)]
      go_enter Tryz.func78, Tryz.ntmps78
      go_wp2
      go_ret
      exact ⟨rfl, rfl⟩
    · rw [decide_eq_false (show ¬ (lo ≤ y ∧ y ≤ hi) from fun h => h2 h.2)]
      go_enter Tryz.func78, Tryz.ntmps78
      go_wp2
      go_ret
      exact ⟨rfl, rfl⟩
  · rw [decide_eq_false (show ¬ (lo ≤ y ∧ y ≤ hi) from fun h => h1 h.1)]
    go_enter Tryz.func78, Tryz.ntmps78
    go_wp2
    go_ret
    exact ⟨rfl, rfl⟩
theorem swi (lo y hi : Int) (w : World) : Calls Tryz.prog 154 #[.int .i64 lo, .int .i64 y, .int .i64 hi] w fun e w' => e = .returned (.bool (decide (lo ≤ y ∧ y ≤ hi))) ∧ w' = w := by
  by_cases h1 : lo ≤ y
  · by_cases h2 : y ≤ hi
    · rw [decide_eq_true (show lo ≤ y ∧ y ≤ hi from ⟨h1, h2⟩)]
      go_enter Tryz.func154, Tryz.ntmps154
      go_wp2
      go_ret
      exact ⟨rfl, rfl⟩
    · rw [decide_eq_false (show ¬ (lo ≤ y ∧ y ≤ hi) from fun h => h2 h.2)]
      go_enter Tryz.func154, Tryz.ntmps154
      go_wp2
      go_ret
      exact ⟨rfl, rfl⟩
  · rw [decide_eq_false (show ¬ (lo ≤ y ∧ y ≤ hi) from fun h => h1 h.1)]
    go_enter Tryz.func154, Tryz.ntmps154
    go_wp2
    go_ret
    exact ⟨rfl, rfl⟩
theorem tooBig_any (y : Int) (w : World) : Calls Tryz.prog 80 #[.int .i64 y] w fun e w' => e = .returned (.bool (!bigB y)) ∧ Below w.heap.size w w' := by
  have HD : Hid (decide (0 ≤ y ∧ y ≤ 1099511627776) = bigB y) := rfl
  go_enter Tryz.func80, Tryz.ntmps80
  go_wp2_with fail
  refine (wiB _ _ _ _).mono ?_
  rintro e w' ⟨rfl, rfl⟩
  rw [HD.out]
  go_wp2
  go_ret
  exact ⟨rfl, Below.refl _ _⟩
def atI {α : Type} (p : α → Bool) (l : List α) : Int := match l.findIdx? p with | some k => (k : Int) | none => -1
theorem atI_hit {α : Type} {p : α → Bool} {l : List α} {k : Nat} {x : α} (h : l[k]? = some x) (hp : p x = true) (hb : ∀ j y, j < k → l[j]? = some y → p y = false) : atI p l = k := by
  unfold atI
  have hk := (List.getElem?_eq_some_iff.1 h).1
  have hx := (List.getElem?_eq_some_iff.1 h).2
  have : l.findIdx? p = some k := by
    rw [List.findIdx?_eq_some_iff_getElem]
    refine ⟨hk, by rw [hx]; exact hp, fun j hj => ?_⟩
    have := hb j _ hj (List.getElem?_eq_getElem (by omega))
    simp [this]
  rw [this]
theorem atI_miss {α : Type} {p : α → Bool} {l : List α} (hb : ∀ j y, j < l.length → l[j]? = some y → p y = false) : atI p l = -1 := by
  unfold atI
  have : l.findIdx? p = none := by
    rw [List.findIdx?_eq_none_iff]
    intro x hx
    obtain ⟨j, hj⟩ := List.mem_iff_getElem?.1 hx
    exact hb j x (List.getElem?_eq_some_iff.1 hj).1 hj
  rw [this]
theorem atI_any {α : Type} (p : α → Bool) (l : List α) : decide (0 ≤ atI p l) = l.any p := by
  unfold atI
  cases h : l.findIdx? p with
  | none =>
    rw [List.findIdx?_eq_none_iff] at h
    have : l.any p = false := List.any_eq_false.2 fun x hx => by rw [h x hx]; simp
    rw [this]
    rfl
  | some k =>
    rw [List.findIdx?_eq_some_iff_getElem] at h
    obtain ⟨hk, hp, -⟩ := h
    have : l.any p = true := List.any_eq_true.2 ⟨_, List.getElem_mem hk, hp⟩
    rw [this]
    simp
set_option maxRecDepth 100000 in
set_option maxHeartbeats 2000000 in
theorem idxBig (v : Value) (l : List Int) (p : Int → Bool) (w : World) (hv : AtW EI w v l)
    (hp : ∀ x ∈ l, ∀ V, Below w.heap.size w V → Calls Tryz.prog 80 #[.int .i64 x] V fun e w' => e = .returned (.bool (p x)) ∧ Below V.heap.size V w') :
    Calls Tryz.prog 127 #[v, .func (Fn.func 80) #[] #[]] w fun e w' => e = .returned (.int .i64 (atI p l)) ∧ Below w.heap.size w w' := by
  obtain ⟨ao, cap, rfl, hm, hx⟩ := hv.open
  clear hv
  unfold maxLen at hm
  obtain ⟨n, hn⟩ : ∃ n, l.length = n := ⟨_, rfl⟩
  rw [hn] at hm ⊢
  have HN : Hid (l.length = n) := hn
  have HX : Hid (∀ i x, l[i]? = some x → ∃ b off, ao = some ⟨b, off, none⟩ ∧ True ∧ b < w.heap.size ∧ ∀ k u, (EI.cells x)[k]? = some u → w.cell? ⟨b, off + (i * EI.sz + k), none⟩ = some u) := hx
  have HPR : Hid (∀ x ∈ l, ∀ V, Below w.heap.size w V → Calls Tryz.prog 80 #[.int .i64 x] V fun e w' => e = .returned (.bool (p x)) ∧ Below V.heap.size V w') := hp
  clear hn hx hp
  go_enter Tryz.func127, Tryz.ntmps127
  go_wp2
  go_loopw [8] (fun i wr => ∃ k : Nat, k ≤ n ∧ i = .int .i64 k ∧ Hid (∀ j y, j < k → l[j]? = some y → p y = false) ∧ Hid (Below w.heap.size w wr)) (fun i _ => n - (intOf i).toNat)
  case atStart => exact ⟨0, Nat.zero_le _, rfl, fun j y hj => by omega, Below.refl _ _⟩
  case round =>
    obtain ⟨k, hk, rfl, HP, HB⟩ := hrel
    by_cases hlt : k < n
    · obtain ⟨x, hxk⟩ : ∃ x, l[k]? = some x := ⟨_, List.getElem?_eq_getElem (by rw [HN.out]; exact hlt)⟩
      have HXK : Hid (l[k]? = some x) := hxk
      obtain ⟨b2, off, rfl, -, hB, hcx⟩ := HX.out k x hxk
      have a := fun j u hj => (HB.out.cell (p := ⟨b2, off + (k * EI.sz + j), none⟩) hB).trans (hcx j u hj)
      have c0 : wr.cell? ⟨b2, off + k, none⟩ = some (.int .i64 x) := by have := a 0 _ rfl; simpa [EI] using this
      have hsz := HB.out.size
      have HC := HPR.out x (List.mem_of_getElem? hxk)
      clear a hcx hxk
      have hlt' : (k : Int) < (n : Int) := by omega
      obtain ⟨r, hr⟩ : ∃ r, p x = r := ⟨_, rfl⟩
      go_wp2_with fail
      refine (HC _ HB.out).mono ?_
      rintro e w1 ⟨rfl, hb1⟩
      rw [hr]
      have HB1 : Hid (Below w.heap.size w w1) := HB.out.trans (hb1.mono hsz)
      clear hb1
      cases r with
      | true =>
        have HA : Hid (atI p l = k) := atI_hit HXK.out hr HP.out
        clear hr HC
        go_wp2
        go_ret
        rw [HA.out]
        exact ⟨rfl, HB1.out⟩
      | false =>
        have HP2 : Hid (∀ j y, j < k + 1 → l[j]? = some y → p y = false) := fun j y hj hy => by
          by_cases e : j = k
          · subst e
            rw [HXK.out] at hy
            cases hy
            exact hr
          · exact HP.out j y (by omega) hy
        clear hr HC
        go_wp2
        go_roundw
        case rel => exact ⟨k + 1, by omega, by go_num, HP2, HB1⟩
        case measure => simp [intOf]; omega
    · obtain rfl : k = n := by omega
      have HA : Hid (atI p l = -1) := atI_miss fun j y hj => HP.out j y (by rw [← HN.out]; exact hj)
      go_wp2
      go_ret
      rw [HA.out]
      exact ⟨rfl, HB.out⟩
theorem conBig (v : Value) (l : List Int) (p : Int → Bool) (w : World) (hv : AtW EI w v l)
    (hp : ∀ x ∈ l, ∀ V, Below w.heap.size w V → Calls Tryz.prog 80 #[.int .i64 x] V fun e w' => e = .returned (.bool (p x)) ∧ Below V.heap.size V w') :
    Calls Tryz.prog 79 #[v, .func (Fn.func 80) #[] #[]] w fun e w' => e = .returned (.bool (l.any p)) ∧ Below w.heap.size w w' := by
  have HI : Hid (Calls Tryz.prog 127 #[v, .func (Fn.func 80) #[] #[]] w fun e w' => e = .returned (.int .i64 (atI p l)) ∧ Below w.heap.size w w') := idxBig v l p w hv hp
  obtain ⟨t, ht⟩ : ∃ t, atI p l = t := ⟨_, rfl⟩
  have HT : Hid (atI p l = t) := ht
  obtain ⟨b, hb⟩ : ∃ b, l.any p = b := ⟨_, rfl⟩
  have hd : decide (0 ≤ t) = b := by rw [← ht, ← hb]; exact atI_any p l
  rw [hb]
  clear hp hv ht hb
  go_enter Tryz.func79, Tryz.ntmps79
  go_wp2_with fail
  refine HI.out.mono ?_
  rintro e w1 ⟨rfl, hb1⟩
  rw [HT.out]
  go_wp2
  go_ret
  exact ⟨rfl, hb1⟩
theorem ofits_any (y : Int) (w : World) : Calls Tryz.prog 166 #[.int .i64 y] w fun e w' => e = .returned (.bool (bigB y)) ∧ w' = w := by
  unfold bigB
  by_cases h1 : 0 ≤ y
  · by_cases h2 : y ≤ 1099511627776
    · rw [decide_eq_true (show 0 ≤ y ∧ y ≤ 1099511627776 from ⟨h1, h2⟩)]
      go_enter Tryz.func166, Tryz.ntmps166
      go_wp2
      go_ret
      exact ⟨rfl, rfl⟩
    · rw [decide_eq_false (show ¬ (0 ≤ y ∧ y ≤ 1099511627776) from fun h => h2 h.2)]
      go_enter Tryz.func166, Tryz.ntmps166
      go_wp2
      go_ret
      exact ⟨rfl, rfl⟩
  · rw [decide_eq_false (show ¬ (0 ≤ y ∧ y ≤ 1099511627776) from fun h => h1 h.1)]
    go_enter Tryz.func166, Tryz.ntmps166
    go_wp2
    go_ret
    exact ⟨rfl, rfl⟩
theorem okIt_eq (x : It) : okIt x = (bigB x.v && (bigB x.c && (decide (¬ x.r < 1) && (decide (¬ 1099511627776 < x.r) && decide (¬ 4096 < x.b.size))))) := by
  unfold okIt bigB
  rw [Bool.eq_iff_iff]
  simp
  omega
set_option maxRecDepth 100000 in
set_option maxHeartbeats 1000000 in
theorem wrong_any (x : It) (w : World) : Calls Tryz.prog 161 #[VI x] w fun e w' => e = .returned (.bool (!okIt x)) ∧ Below w.heap.size w w' := by
  have HB : Hid (Below w.heap.size w (w.alloc (BI x))) := below_alloc _ _
  rw [okIt_eq]
  obtain ⟨t1, h1⟩ : ∃ t, bigB x.v = t := ⟨_, rfl⟩
  obtain ⟨t2, h2⟩ : ∃ t, bigB x.c = t := ⟨_, rfl⟩
  have H1 : Hid (bigB x.v = t1) := h1
  have H2 : Hid (bigB x.c = t2) := h2
  rw [h1, h2]
  clear h1 h2
  cases t1 with
  | false =>
    go_enter Tryz.func161, Tryz.ntmps161
    go_wp2_with fail
    refine (ofits_any _ _).mono ?_
    rintro e w' ⟨rfl, rfl⟩
    rw [H1.out]
    go_wp2
    go_ret
    exact ⟨rfl, HB.out⟩
  | true =>
    cases t2 with
    | false =>
      go_enter Tryz.func161, Tryz.ntmps161
      go_wp2_with fail
      refine (ofits_any _ _).mono ?_
      rintro e w' ⟨rfl, rfl⟩
      rw [H1.out]
      go_wp2_with fail
      refine (ofits_any _ _).mono ?_
      rintro e w' ⟨rfl, rfl⟩
      rw [H2.out]
      go_wp2
      go_ret
      exact ⟨rfl, HB.out⟩
    | true =>
      by_cases c1 : x.r < 1
      · have HA : Hid ((!(true && (true && (decide (¬ x.r < 1) && (decide (¬ 1099511627776 < x.r) && decide (¬ 4096 < x.b.size)))))) = true) := by show _ = _; simp [c1]
        rw [HA.out]
        go_enter Tryz.func161, Tryz.ntmps161
        go_wp2_with fail
        refine (ofits_any _ _).mono ?_
        rintro e w' ⟨rfl, rfl⟩
        rw [H1.out]
        go_wp2_with fail
        refine (ofits_any _ _).mono ?_
        rintro e w' ⟨rfl, rfl⟩
        rw [H2.out]
        go_wp2
        go_ret
        exact ⟨by first | rfl | (rw [HA.out]; rfl), HB.out⟩
      · by_cases c2 : 1099511627776 < x.r
        · have HA : Hid ((!(true && (true && (decide (¬ x.r < 1) && (decide (¬ 1099511627776 < x.r) && decide (¬ 4096 < x.b.size)))))) = true) := by show _ = _; simp [c1, c2]
          rw [HA.out]
          go_enter Tryz.func161, Tryz.ntmps161
          go_wp2_with fail
          refine (ofits_any _ _).mono ?_
          rintro e w' ⟨rfl, rfl⟩
          rw [H1.out]
          go_wp2_with fail
          refine (ofits_any _ _).mono ?_
          rintro e w' ⟨rfl, rfl⟩
          rw [H2.out]
          go_wp2
          go_ret
          exact ⟨by first | rfl | (rw [HA.out]; rfl), HB.out⟩
        · by_cases c3 : 4096 < x.b.size
          · have HA : Hid ((!(true && (true && (decide (¬ x.r < 1) && (decide (¬ 1099511627776 < x.r) && decide (¬ 4096 < x.b.size)))))) = true) := by show _ = _; simp [c1, c2, c3]
            have c3' : (4096 : Int) < (x.b.size : Int) := by omega
            have c3'' : decide (4096 < x.b.size) = true := decide_eq_true c3
            rw [HA.out]
            go_enter Tryz.func161, Tryz.ntmps161
            go_wp2_with fail
            refine (ofits_any _ _).mono ?_
            rintro e w' ⟨rfl, rfl⟩
            rw [H1.out]
            go_wp2_with fail
            refine (ofits_any _ _).mono ?_
            rintro e w' ⟨rfl, rfl⟩
            rw [H2.out]
            go_wp2
            go_ret
            exact ⟨by first | rfl | (rw [HA.out]; rfl), HB.out⟩
          · have HA : Hid ((!(true && (true && (decide (¬ x.r < 1) && (decide (¬ 1099511627776 < x.r) && decide (¬ 4096 < x.b.size)))))) = false) := by show _ = _; simp [c1, c2, c3]
            have c3' : ¬ (4096 : Int) < (x.b.size : Int) := by omega
            have c3'' : decide (4096 < x.b.size) = false := decide_eq_false c3
            have c4 : decide ((4096 : Int) < (x.b.size : Int)) = false := decide_eq_false c3'
            have c5 : decide (x.r < 1) = false := decide_eq_false c1
            have c6 : decide (1099511627776 < x.r) = false := decide_eq_false c2
            clear c1 c2 c3 c3'
            rw [HA.out]
            go_enter Tryz.func161, Tryz.ntmps161
            go_wp2_with fail
            refine (ofits_any _ _).mono ?_
            rintro e w' ⟨rfl, rfl⟩
            rw [H1.out]
            go_wp2_with fail
            refine (ofits_any _ _).mono ?_
            rintro e w' ⟨rfl, rfl⟩
            rw [H2.out]
            go_wp2
            go_ret
            exact ⟨by first | rfl | (rw [HA.out]; rfl), HB.out⟩
set_option maxRecDepth 100000 in
set_option maxHeartbeats 2000000 in
theorem idxWr (v : Value) (l : List It) (p : It → Bool) (w : World) (hv : AtW EM w v l)
    (hp : ∀ x ∈ l, ∀ V, Below w.heap.size w V → Calls Tryz.prog 161 #[VI x] V fun e w' => e = .returned (.bool (p x)) ∧ Below V.heap.size V w') :
    Calls Tryz.prog 128 #[v, .func (Fn.func 161) #[] #[]] w fun e w' => e = .returned (.int .i64 (atI p l)) ∧ Below w.heap.size w w' := by
  obtain ⟨ao, cap, rfl, hm, hx⟩ := hv.open
  clear hv
  unfold maxLen at hm
  obtain ⟨n, hn⟩ : ∃ n, l.length = n := ⟨_, rfl⟩
  rw [hn] at hm ⊢
  have HN : Hid (l.length = n) := hn
  have HX : Hid (∀ i x, l[i]? = some x → ∃ b off, ao = some ⟨b, off, none⟩ ∧ True ∧ b < w.heap.size ∧ ∀ k u, (EM.cells x)[k]? = some u → w.cell? ⟨b, off + (i * EM.sz + k), none⟩ = some u) := hx
  have HPR : Hid (∀ x ∈ l, ∀ V, Below w.heap.size w V → Calls Tryz.prog 161 #[VI x] V fun e w' => e = .returned (.bool (p x)) ∧ Below V.heap.size V w') := hp
  clear hn hx hp
  go_enter Tryz.func128, Tryz.ntmps128
  go_wp2
  go_loopw [8] (fun i wr => ∃ k : Nat, k ≤ n ∧ i = .int .i64 k ∧ Hid (∀ j y, j < k → l[j]? = some y → p y = false) ∧ Hid (Below w.heap.size w wr)) (fun i _ => n - (intOf i).toNat)
  case atStart => exact ⟨0, Nat.zero_le _, rfl, fun j y hj => by omega, Below.refl _ _⟩
  case round =>
    obtain ⟨k, hk, rfl, HP, HB⟩ := hrel
    by_cases hlt : k < n
    · obtain ⟨x, hxk⟩ : ∃ x, l[k]? = some x := ⟨_, List.getElem?_eq_getElem (by rw [HN.out]; exact hlt)⟩
      have HXK : Hid (l[k]? = some x) := hxk
      obtain ⟨b2, off, rfl, -, hB, hcx⟩ := HX.out k x hxk
      have a := fun j u hj => (HB.out.cell (p := ⟨b2, off + (k * EM.sz + j), none⟩) hB).trans (hcx j u hj)
      have c0 : wr.cell? ⟨b2, off + k * 4, none⟩ = some (.int .i64 x.v) := by have := a 0 _ rfl; exact this
      have c1 : wr.cell? ⟨b2, off + k * 4 + 1, none⟩ = some (.int .i64 x.c) := by have := a 1 _ rfl; exact this
      have c2 : wr.cell? ⟨b2, off + k * 4 + 2, none⟩ = some (.int .i64 x.r) := by have := a 2 _ rfl; exact this
      have c3 : wr.cell? ⟨b2, off + k * 4 + 3, none⟩ = some (.string x.b) := by have := a 3 _ rfl; exact this
      have hsz := HB.out.size
      have HC := HPR.out x (List.mem_of_getElem? hxk)
      clear a hcx hxk
      have hlt' : (k : Int) < (n : Int) := by omega
      obtain ⟨r, hr⟩ : ∃ r, p x = r := ⟨_, rfl⟩
      go_wp2_with fail
      refine (HC _ HB.out).mono ?_
      rintro e w1 ⟨rfl, hb1⟩
      rw [hr]
      have HB1 : Hid (Below w.heap.size w w1) := HB.out.trans (hb1.mono hsz)
      clear hb1
      cases r with
      | true =>
        have HA : Hid (atI p l = k) := atI_hit HXK.out hr HP.out
        clear hr HC
        go_wp2
        go_ret
        rw [HA.out]
        exact ⟨rfl, HB1.out⟩
      | false =>
        have HP2 : Hid (∀ j y, j < k + 1 → l[j]? = some y → p y = false) := fun j y hj hy => by
          by_cases e : j = k
          · subst e
            rw [HXK.out] at hy
            cases hy
            exact hr
          · exact HP.out j y (by omega) hy
        clear hr HC
        go_wp2
        go_roundw
        case rel => exact ⟨k + 1, by omega, by go_num, HP2, HB1⟩
        case measure => simp [intOf]; omega
    · obtain rfl : k = n := by omega
      have HA : Hid (atI p l = -1) := atI_miss fun j y hj => HP.out j y (by rw [← HN.out]; exact hj)
      go_wp2
      go_ret
      rw [HA.out]
      exact ⟨rfl, HB.out⟩
theorem conWr (v : Value) (l : List It) (p : It → Bool) (w : World) (hv : AtW EM w v l)
    (hp : ∀ x ∈ l, ∀ V, Below w.heap.size w V → Calls Tryz.prog 161 #[VI x] V fun e w' => e = .returned (.bool (p x)) ∧ Below V.heap.size V w') :
    Calls Tryz.prog 82 #[v, .func (Fn.func 161) #[] #[]] w fun e w' => e = .returned (.bool (l.any p)) ∧ Below w.heap.size w w' := by
  have HI : Hid (Calls Tryz.prog 128 #[v, .func (Fn.func 161) #[] #[]] w fun e w' => e = .returned (.int .i64 (atI p l)) ∧ Below w.heap.size w w') := idxWr v l p w hv hp
  obtain ⟨t, ht⟩ : ∃ t, atI p l = t := ⟨_, rfl⟩
  have HT : Hid (atI p l = t) := ht
  obtain ⟨b, hb⟩ : ∃ b, l.any p = b := ⟨_, rfl⟩
  have hd : decide (0 ≤ t) = b := by rw [← ht, ← hb]; exact atI_any p l
  rw [hb]
  clear hp hv ht hb
  go_enter Tryz.func82, Tryz.ntmps82
  go_wp2_with fail
  refine HI.out.mono ?_
  rintro e w1 ⟨rfl, hb1⟩
  rw [HT.out]
  go_wp2
  go_ret
  exact ⟨rfl, hb1⟩
end Go.Proofs.YtkdhbjmpjbdobaaGreatDoor
