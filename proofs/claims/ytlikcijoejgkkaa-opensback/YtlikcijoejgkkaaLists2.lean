/-
  slices.Contains; opens.without, Held, Of: what they answer.
-/
import Derived.Test.YtlikcijoejgkkaaLists
namespace Go.Proofs.Ytlikcijoejgkkaa
open Go.ChangeShapes Go.WideShapes Go.ChangeAt Go.RowKit Go.Deep
theorem contains_yes (v : Value) (l : List Opn) (y : Opn) (w : World) (hv : AtW EO w v l) (h : y ∈ l) :
    Calls Try.prog 33 #[v, VO y] w fun e w' => e = .returned (.bool true) ∧ Below w.heap.size w w' := by
  have HB0 : Hid (Below w.heap.size w (w.alloc (BO y))) := (Below.refl _ w).alloc (Nat.le_refl _) _
  have HV : Hid (AtW EO (w.alloc (BO y)) v l) := hv.up HB0.out
  have H : Hid (y ∈ l) := h
  clear hv h
  go_enter Try.func33, Try.ntmps33
  go_wp2_with fail
  refine (index_any v l y _ HV.out).mono ?_
  rintro e w1 ⟨i, rfl, hi, hb⟩
  have h0 : 0 ≤ i := hi.2 H.out
  have HB1 : Hid (Below w.heap.size w w1) := HB0.out.trans (hb.mono (by simp))
  clear hi hb
  go_wp2
  go_ret
  exact ⟨rfl, HB1.out⟩
theorem contains_no (v : Value) (l : List Opn) (y : Opn) (w : World) (hv : AtW EO w v l) (h : y ∉ l) :
    Calls Try.prog 33 #[v, VO y] w fun e w' => e = .returned (.bool false) ∧ Below w.heap.size w w' := by
  have HB0 : Hid (Below w.heap.size w (w.alloc (BO y))) := (Below.refl _ w).alloc (Nat.le_refl _) _
  have HV : Hid (AtW EO (w.alloc (BO y)) v l) := hv.up HB0.out
  have H : Hid (y ∉ l) := h
  clear hv h
  go_enter Try.func33, Try.ntmps33
  go_wp2_with fail
  refine (index_any v l y _ HV.out).mono ?_
  rintro e w1 ⟨i, rfl, hi, hb⟩
  have h0 : decide (0 ≤ i) = false := decide_eq_false fun h => H.out (hi.1 h)
  have HB1 : Hid (Below w.heap.size w w1) := HB0.out.trans (hb.mono (by simp))
  clear hi hb
  go_wp2
  go_ret
  exact ⟨rfl, HB1.out⟩
set_option maxHeartbeats 2000000 in
theorem without_any (v u : Value) (l g : List Opn) (w : World) (hv : AtW EO w v l) (hu : AtW EO w u g) (hl : l.length ≤ 4398046511104) :
    Calls Try.prog 31 #[v, u] w fun e w' => ∃ p n q, e = .returned (.slice p n q) ∧ At EO (fun b => w.heap.size ≤ b) w' (.slice p n q) (Op.without l g) ∧ Below w.heap.size w w' := by
  obtain ⟨ao, cap, rfl, -, hx⟩ := hv.open
  have HU : Hid (AtW EO w u g) := hu
  clear hv hu
  obtain ⟨n, hn⟩ : ∃ n, l.length = n := ⟨_, rfl⟩
  rw [hn] at hl ⊢
  have HN : Hid (l.length = n) := hn
  have HX : Hid (Over w ao l) := hx
  obtain ⟨j0, hj, hy0, hy1, hy2⟩ := info_parts infoO
  obtain ⟨p, hp⟩ : ∃ p : Opn → Bool, p = fun x => decide (x ∉ g) := ⟨_, rfl⟩
  have HP : Hid (p = fun x => decide (x ∉ g)) := hp
  clear hn hx hp
  go_enter Try.func31, Try.ntmps31
  go_wp2
  go_loopw [5, 10] (fun t i wr => ∃ (k : Nat) (pp : Option Addr) (jj q : Nat), k ≤ n ∧ i = .int .i64 k ∧ t = .slice pp jj q ∧ Hid (Row EO wr w.heap.size 27 (.slice pp jj q) ((l.take k).filter p)) ∧ Hid (Below w.heap.size w wr)) (fun _ i _ => n - (intOf i).toNat)
  case atStart => exact ⟨0, none, 0, 0, Nat.zero_le _, rfl, rfl, by rw [List.take_zero]; exact Row.nil _ _ _ _, Below.refl _ _⟩
  case round =>
    obtain ⟨k, pp, jj, q, hk, rfl, rfl, HR, HB⟩ := hrel
    have hsz := HB.out.size
    by_cases hlt : k < n
    · obtain ⟨x, hxk⟩ : ∃ x, l[k]? = some x := ⟨_, List.getElem?_eq_getElem (by rw [HN.out]; exact hlt)⟩
      have HXK : Hid (l[k]? = some x) := hxk
      obtain ⟨b, off, rfl, -, hB, hc⟩ := HX.out k x hxk
      obtain ⟨c0, c1, c2, c3⟩ := opn_cells HB.out hB hc
      clear hc hxk
      have hlt' : (k : Int) < (n : Int) := by omega
      have HLEN : Hid (((l.take k).filter p).length ≤ k) := Op.filter_len l p k
      by_cases g1 : x ∉ g
      · have HG : Hid ((l.take (k + 1)).filter p = (l.take k).filter p ++ [x]) := Op.filter_in HXK.out (by rw [HP.out]; simp [g1])
        have HG1 : Hid (x ∉ g) := g1
        clear g1
        go_wp2_with fail
        refine (contains_no _ g x _ ((HU.out.up HB.out).up ((Below.refl _ _).alloc (Nat.le_refl _) _)) HG1.out).mono ?_
        rintro e w1 ⟨rfl, hb1⟩
        obtain ⟨⟨z0, z1, z2, z3⟩, -⟩ := opn_of ((hb1.block wr.heap.size (by simp)).trans (heap_alloc_new wr (BO x)))
        have HB1 : Hid (Below w.heap.size w w1) := (HB.out.alloc hsz _).trans (hb1.mono (by simp; omega))
        have hs1 := HB1.out.size
        have HR3 : Hid (Row EO (w1.alloc (BO x)) w.heap.size 27 (.slice pp jj q) ((l.take k).filter p)) := ((HR.out.up ((Below.refl _ _).alloc (Nat.le_refl _) _)).up hb1).up ((Below.refl _ _).alloc (Nat.le_refl _) _)
        have HB3 : Hid (Below w.heap.size w (w1.alloc (BO x))) := HB1.out.alloc hs1 _
        have HO : Hid (AtW EO (w1.alloc (BO x)) (.slice (some ⟨w1.heap.size, 0, none⟩) 1 1) [x]) := at_one (heap_alloc_new w1 (BO x))
        clear hb1
        go_wp2_with (at_builtin; refine wpList_row _ rfl _ _ 22 rfl EO (fun _ => True) w.heap.size 27 j0 _ 32 Try.underlying22 hj hy0 hy1 hy2 rfl _ ((l.take k).filter p) rfl HR3.out _ [x] rfl HO.out (by have := HLEN.out; unfold maxLen; simp only [List.length_cons, List.length_nil]; omega) (by have := HLEN.out; simp only [List.length_cons, List.length_nil]; omega) (by simp; omega) ?_; intro v7 w7 hrow7 hg7 hloc7)
        have HEND : Hid (Row EO w7 w.heap.size 27 v7 ((l.take (k + 1)).filter p) ∧ Below w.heap.size w w7) := ⟨by rw [HG.out]; exact hrow7, HB3.out.grown hg7 (by simp; omega) (fun k hk => (HR3.out.lt k hk).1)⟩
        clear hrow7 hg7 hloc7
        obtain ⟨p7, c7, hv7⟩ := HEND.out.1.slice
        obtain ⟨n7, hn7⟩ : ∃ n7, ((l.take (k + 1)).filter p).length = n7 := ⟨_, rfl⟩
        rw [hn7] at hv7
        subst hv7
        clear hn7
        go_wp2
        go_roundw
        case rel => exact ⟨k + 1, p7, n7, c7, by omega, by go_num, rfl, HEND.out.1, HEND.out.2⟩
        case measure => simp [intOf]; omega
      · have HG : Hid ((l.take (k + 1)).filter p = (l.take k).filter p) := Op.filter_out HXK.out (by rw [HP.out]; simp at g1; simp [g1])
        have HG1 : Hid (x ∈ g) := Classical.not_not.1 g1
        clear g1
        go_wp2_with fail
        refine (contains_yes _ g x _ ((HU.out.up HB.out).up ((Below.refl _ _).alloc (Nat.le_refl _) _)) HG1.out).mono ?_
        rintro e w1 ⟨rfl, hb1⟩
        have HB1 : Hid (Below w.heap.size w w1) := (HB.out.alloc hsz _).trans (hb1.mono (by simp; omega))
        have HR2 : Hid (Row EO w1 w.heap.size 27 (.slice pp jj q) ((l.take k).filter p)) := (HR.out.up ((Below.refl _ _).alloc (Nat.le_refl _) _)).up hb1
        clear hb1
        go_wp2
        go_roundw
        case rel => exact ⟨k + 1, pp, jj, q, by omega, by go_num, rfl, by rw [HG.out]; exact HR2.out, HB1⟩
        case measure => simp [intOf]; omega
    · obtain rfl : k = n := by omega
      have HEND : Hid (At EO (fun b => w.heap.size ≤ b) wr (.slice pp jj q) (Op.without l g)) := by
        have := HR.out.at
        rw [← HN.out, List.take_length, HP.out] at this
        exact this
      go_wp2
      go_ret
      exact ⟨_, _, _, rfl, HEND.out, HB.out⟩
theorem hand_of {w : World} {A : Nat} {no gen : Int} (h : w.heap[A]? = some (BH no gen)) : w.cell? ⟨A, 0, none⟩ = some (.int .i64 no) ∧ w.cell? ⟨A, 1, none⟩ = some (.int .i64 gen) := by
  constructor <;> simp [World.cell?, h]
namespace Op
theorem held_in {l : List Opn} {no gen : Int} {k : Nat} {x : Opn} (h : l[k]? = some x) (hx : (x.2.2.1 == no && x.2.2.2 == gen) = true) : held (l.take (k + 1)) no gen = held (l.take k) no gen + 1 := by
  unfold held
  rw [take_at h, List.countP_append]
  simp only [List.countP_singleton, hx, if_true]
theorem held_out {l : List Opn} {no gen : Int} {k : Nat} {x : Opn} (h : l[k]? = some x) (hx : (x.2.2.1 == no && x.2.2.2 == gen) = false) : held (l.take (k + 1)) no gen = held (l.take k) no gen := by
  unfold held
  rw [take_at h, List.countP_append]
  simp [hx]
theorem held_le (l : List Opn) (no gen : Int) (k : Nat) : held (l.take k) no gen ≤ k := Nat.le_trans List.countP_le_length (by simp; omega)
end Op
set_option maxHeartbeats 1000000 in
theorem held_any (v : Value) (l : List Opn) (no gen : Int) (w : World) (hv : AtW EO w v l) :
    Calls Try.prog 10 #[v, VH no gen] w fun e w' => e = .returned (.int .i64 (Op.held l no gen : Nat)) ∧ Below w.heap.size w w' := by
  obtain ⟨ao, cap, rfl, hm, hx⟩ := hv.open
  clear hv
  unfold maxLen at hm
  obtain ⟨n, hn⟩ : ∃ n, l.length = n := ⟨_, rfl⟩
  rw [hn] at hm ⊢
  have HN : Hid (l.length = n) := hn
  have HX : Hid (Over w ao l) := hx
  obtain ⟨r, hr⟩ : ∃ r, Op.held l no gen = r := ⟨_, rfl⟩
  rw [hr]
  have HR : Hid (Op.held l no gen = r) := hr
  obtain ⟨W, hW⟩ : ∃ W, W = w.alloc (BH no gen) := ⟨_, rfl⟩
  have HB0 : Hid (Below w.heap.size w W) := by show Below w.heap.size w W; rw [hW]; exact (Below.refl _ w).alloc (Nat.le_refl _) _
  have HA0 : Hid (W.heap[w.heap.size]? = some (BH no gen)) := by show W.heap[w.heap.size]? = some (BH no gen); rw [hW]; exact heap_alloc_new w (BH no gen)
  have hWs : W.heap.size = w.heap.size + 1 := by rw [hW]; simp
  clear hn hx hr
  go_enter Try.func10, Try.ntmps10
  go_wp2
  rw [← hW]
  clear hW
  go_loopw [5, 10] (fun t i wr => ∃ (k m : Nat), k ≤ n ∧ m ≤ k ∧ i = .int .i64 k ∧ t = .int .i64 m ∧ Hid (m = Op.held (l.take k) no gen) ∧ Hid (Below W.heap.size W wr)) (fun _ i _ => n - (intOf i).toNat)
  case atStart => exact ⟨0, 0, Nat.zero_le _, Nat.le_refl _, rfl, rfl, rfl, Below.refl _ _⟩
  case round =>
    obtain ⟨k, m, hk, hmk, rfl, rfl, HM, HB⟩ := hrel
    have hsz := HB.out.size
    have HB1 : Hid (Below w.heap.size w wr) := HB0.out.trans (HB.out.mono HB0.out.size)
    obtain ⟨z0, z1⟩ := hand_of ((HB.out.block _ (Array.getElem?_eq_some_iff.1 HA0.out).1).trans HA0.out)
    by_cases hlt : k < n
    · obtain ⟨x, hxk⟩ : ∃ x, l[k]? = some x := ⟨_, List.getElem?_eq_getElem (by rw [HN.out]; exact hlt)⟩
      have HXK : Hid (l[k]? = some x) := hxk
      obtain ⟨b, off, rfl, -, hB, hc⟩ := HX.out k x hxk
      obtain ⟨c0, c1, c2, c3⟩ := opn_cells HB1.out hB hc
      clear hc hxk
      rw [← cell_older (by omega) (BO x)] at z0 z1
      have hlt' : (k : Int) < (n : Int) := by omega
      cases g : (x.2.2.1 == no && x.2.2.2 == gen) with
      | true =>
        have HG : Hid (Op.held (l.take (k + 1)) no gen = Op.held (l.take k) no gen + 1) := Op.held_in HXK.out g
        have heq : ∀ w', (binOp .eql 24 (VH x.2.2.1 x.2.2.2) (VH no gen)).run Try.prog w' = .ok (.bool true) w' := fun w' => by rw [eql_hand, g]
        clear g
        go_wp2
        go_roundw
        case rel => exact ⟨k + 1, m + 1, by omega, by omega, by go_num, by go_num, by rw [HG.out, ← HM.out]; exact rfl, HB.out.alloc hsz _⟩
        case measure => simp [intOf]; omega
      | false =>
        have HG : Hid (Op.held (l.take (k + 1)) no gen = Op.held (l.take k) no gen) := Op.held_out HXK.out g
        have heq : ∀ w', (binOp .eql 24 (VH x.2.2.1 x.2.2.2) (VH no gen)).run Try.prog w' = .ok (.bool false) w' := fun w' => by rw [eql_hand, g]
        clear g
        go_wp2
        go_roundw
        case rel => exact ⟨k + 1, m, by omega, by omega, by go_num, rfl, by rw [HG.out, ← HM.out]; exact rfl, HB.out.alloc hsz _⟩
        case measure => simp [intOf]; omega
    · obtain rfl : k = n := by omega
      have H : Hid (r = m) := by
        have := HR.out
        have h2 := HM.out
        rw [← HN.out, List.take_length, this] at h2
        exact h2.symm
      go_wp2
      go_ret
      rw [H.out]
      exact ⟨rfl, HB1.out⟩
end Go.Proofs.Ytlikcijoejgkkaa
