/-
  opens.refuse, leastFree, owned, without, Held, Of; slices.Index, slices.Contains: what they answer.
-/
import Derived.Test.YtlikcijoejgkkaaBase
namespace Go.Proofs.Ytlikcijoejgkkaa
open Go.ChangeShapes Go.WideShapes Go.ChangeAt Go.RowKit Go.Deep
theorem refuse_any (v : Value) (l : List Opn) (c : Int) (w : World) (hv : AtW EO w v l) :
    Calls Try.prog 27 #[v, .int .i64 c] w fun e w' => e = .returned (.int .i64 (Op.ask l c)) ∧ Below w.heap.size w w' := by
  have HV : Hid (AtW EO w v l) := hv
  clear hv
  rcases Op.ask_or l c with ⟨ha, hr, hc⟩ | ⟨ha, hr, hc⟩ | ⟨ha, hr⟩
  · have HE : Hid ((if Op.right 0 l = true then (0 : Int) else 4) = 0) := if_pos hr
    have HC : Hid (Op.Cl c) := hc
    rw [ha]
    clear ha hr hc
    go_enter Try.func27, Try.ntmps27
    go_wp2_with fail
    refine (check_any v l _ HV.out).mono ?_
    rintro e w1 ⟨rfl, hb⟩
    rw [HE.out]
    go_wp2_with fail
    refine (rclient_yes _ _ HC.out).mono ?_
    rintro e w2 ⟨rfl, rfl⟩
    go_wp2
    go_ret
    exact ⟨rfl, hb⟩
  · have HE : Hid ((if Op.right 0 l = true then (0 : Int) else 4) = 0) := if_pos hr
    have HC : Hid (¬ Op.Cl c) := hc
    rw [ha]
    clear ha hr hc
    go_enter Try.func27, Try.ntmps27
    go_wp2_with fail
    refine (check_any v l _ HV.out).mono ?_
    rintro e w1 ⟨rfl, hb⟩
    rw [HE.out]
    go_wp2_with fail
    refine (rclient_no _ _ HC.out).mono ?_
    rintro e w2 ⟨rfl, rfl⟩
    go_wp2
    go_ret
    exact ⟨rfl, hb⟩
  · have HE : Hid ((if Op.right 0 l = true then (0 : Int) else 4) = 4) := if_neg (by rw [hr]; decide)
    rw [ha]
    clear ha hr
    go_enter Try.func27, Try.ntmps27
    go_wp2_with fail
    refine (check_any v l _ HV.out).mono ?_
    rintro e w1 ⟨rfl, hb⟩
    rw [HE.out]
    go_wp2
    go_ret
    exact ⟨rfl, hb⟩
set_option maxHeartbeats 1000000 in
theorem leastFree_any (v : Value) (l : List Opn) (w : World) (hv : AtW EO w v l) :
    Calls Try.prog 28 #[v] w fun e w' => e = .returned (.int .i64 (Op.least 0 l : Nat)) ∧ Below w.heap.size w w' := by
  obtain ⟨ao, cap, rfl, hm, hx⟩ := hv.open
  clear hv
  unfold maxLen at hm
  obtain ⟨n, hn⟩ : ∃ n, l.length = n := ⟨_, rfl⟩
  rw [hn] at hm ⊢
  have HN : Hid (l.length = n) := hn
  have HX : Hid (Over w ao l) := hx
  obtain ⟨r, hr⟩ : ∃ r, Op.least 0 l = r := ⟨_, rfl⟩
  rw [hr]
  have HR : Hid (Op.least 0 l = r) := hr
  clear hn hx hr
  go_enter Try.func28, Try.ntmps28
  go_wp2
  go_loopw [7] (fun i wr => ∃ (k : Nat), k ≤ n ∧ i = .int .i64 k ∧ Hid (Op.least 0 l = Op.least k (l.drop k)) ∧ Hid (Below w.heap.size w wr)) (fun i _ => n - (intOf i).toNat)
  case atStart => exact ⟨0, Nat.zero_le _, rfl, rfl, Below.refl _ _⟩
  case round =>
    obtain ⟨k, hk, rfl, HP, HB⟩ := hrel
    have hsz := HB.out.size
    by_cases hlt : k < n
    · obtain ⟨x, hxk⟩ : ∃ x, l[k]? = some x := ⟨_, List.getElem?_eq_getElem (by rw [HN.out]; exact hlt)⟩
      have HXK : Hid (l[k]? = some x) := hxk
      obtain ⟨b, off, rfl, -, hB, hc⟩ := HX.out k x hxk
      obtain ⟨c0, c1, c2, c3⟩ := opn_cells HB.out hB hc
      clear hc hxk
      have hlt' : (k : Int) < (n : Int) := by omega
      by_cases g : x.1 = (k : Int)
      · have HY : Hid (Op.least 0 l = Op.least (k + 1) (l.drop (k + 1))) := HP.out.trans (Op.least_yes HXK.out g)
        have g1 : (x.1 == (k : Int)) = true := by simp [g]
        clear g
        go_wp2
        go_roundw
        case rel => exact ⟨k + 1, by omega, by go_num, HY, HB.out.alloc hsz _⟩
        case measure => simp [intOf]; omega
      · have H : Hid (r = k) := by
          have := HR.out
          rw [HP.out, Op.least_no HXK.out g] at this
          exact this.symm
        have g1 : (x.1 == (k : Int)) = false := beq_eq_false_iff_ne.2 g
        clear g
        go_wp2
        go_ret
        rw [H.out]
        exact ⟨rfl, HB.out.alloc hsz _⟩
    · obtain rfl : k = n := by omega
      have H : Hid (r = k) := by
        have := HR.out
        rw [HP.out, Op.least_end HN.out.symm] at this
        exact this.symm
      go_wp2
      go_ret
      rw [H.out]
      exact ⟨rfl, HB.out⟩
theorem at_one {w : World} {B : Nat} {x : Opn} (h : w.heap[B]? = some (BO x)) : AtW EO w (.slice (some ⟨B, 0, none⟩) 1 1) [x] := by
  refine .inr ⟨B, 0, 1, rfl, trivial, (Array.getElem?_eq_some_iff.1 h).1, by simp, by simp, by decide, fun j u hj => ?_⟩
  simp only [World.cell?, h, Nat.zero_add]
  simpa [Enc.flat, EO] using hj
theorem at_two (wr : World) (x : Opn) : AtW EO ((wr.alloc (BO x)).alloc (BO x)) (.slice (some ⟨wr.heap.size + 1, 0, none⟩) 1 1) [x] := by
  have h2 := heap_alloc_new (wr.alloc (BO x)) (BO x)
  rw [show (wr.alloc (BO x)).heap.size = wr.heap.size + 1 by simp] at h2
  exact at_one h2
namespace Op
theorem filter_in {l : List Opn} {p : Opn → Bool} {k : Nat} {x : Opn} (h : l[k]? = some x) (hp : p x = true) : (l.take (k + 1)).filter p = (l.take k).filter p ++ [x] := by
  rw [take_at h, List.filter_append]
  simp [hp]
theorem filter_out {l : List Opn} {p : Opn → Bool} {k : Nat} {x : Opn} (h : l[k]? = some x) (hp : p x = false) : (l.take (k + 1)).filter p = (l.take k).filter p := by
  rw [take_at h, List.filter_append]
  simp [hp]
theorem filter_len (l : List Opn) (p : Opn → Bool) (k : Nat) : ((l.take k).filter p).length ≤ k := Nat.le_trans (List.length_filter_le _ _) (by simp; omega)
end Op
set_option maxHeartbeats 2000000 in
theorem owned_any (v : Value) (l : List Opn) (c : Int) (w : World) (hv : AtW EO w v l) (hl : l.length ≤ 4398046511104) :
    Calls Try.prog 26 #[v, .int .i64 c] w fun e w' => ∃ p n q, e = .returned (.slice p n q) ∧ At EO (fun b => w.heap.size ≤ b) w' (.slice p n q) (Op.owned l c) ∧ Below w.heap.size w w' := by
  obtain ⟨ao, cap, rfl, -, hx⟩ := hv.open
  clear hv
  obtain ⟨n, hn⟩ : ∃ n, l.length = n := ⟨_, rfl⟩
  rw [hn] at hl ⊢
  have HN : Hid (l.length = n) := hn
  have HX : Hid (Over w ao l) := hx
  obtain ⟨j0, hj, hy0, hy1, hy2⟩ := info_parts infoO
  obtain ⟨p, hp⟩ : ∃ p : Opn → Bool, p = fun x => x.2.1 == c := ⟨_, rfl⟩
  have HP : Hid (p = fun x => x.2.1 == c) := hp
  clear hn hx hp
  go_enter Try.func26, Try.ntmps26
  go_wp2
  go_loopw [5, 10] (fun u i wr => ∃ (k : Nat) (pp : Option Addr) (jj q : Nat), k ≤ n ∧ i = .int .i64 k ∧ u = .slice pp jj q ∧ Hid (Row EO wr w.heap.size 27 (.slice pp jj q) ((l.take k).filter p)) ∧ Hid (Below w.heap.size w wr)) (fun _ i _ => n - (intOf i).toNat)
  case atStart => exact ⟨0, none, 0, 0, Nat.zero_le _, rfl, rfl, by rw [List.take_zero]; exact Row.nil _ _ _ _, Below.refl _ _⟩
  case round =>
    obtain ⟨k, pp, jj, q, hk, rfl, rfl, HR, HB⟩ := hrel
    have hsz := HB.out.size
    by_cases hlt : k < n
    · obtain ⟨x, hxk⟩ : ∃ x, l[k]? = some x := ⟨_, List.getElem?_eq_getElem (by rw [HN.out]; exact hlt)⟩
      have HXK : Hid (l[k]? = some x) := hxk
      obtain ⟨b, off, rfl, -, hB, hc⟩ := HX.out k x hxk
      obtain ⟨c0, c1, c2, c3⟩ := opn_cells HB.out hB hc
      clear hc hxk
      have hlt' : (k : Int) < (n : Int) := by omega
      have HLEN : Hid (((l.take k).filter p).length ≤ k) := Op.filter_len l p k
      by_cases g : x.2.1 = c
      · have HG : Hid ((l.take (k + 1)).filter p = (l.take k).filter p ++ [x]) := Op.filter_in HXK.out (by rw [HP.out]; simp [g])
        have g1 : (x.2.1 == c) = true := by simp [g]
        have HR3 : Hid (Row EO ((wr.alloc (BO x)).alloc (BO x)) w.heap.size 27 (.slice pp jj q) ((l.take k).filter p)) := (HR.out.up ((Below.refl _ _).alloc (Nat.le_refl _) _)).up ((Below.refl _ _).alloc (Nat.le_refl _) _)
        have HB3 : Hid (Below w.heap.size w ((wr.alloc (BO x)).alloc (BO x))) := (HB.out.alloc hsz _).alloc (by simp; omega) _
        have HO : Hid (AtW EO ((wr.alloc (BO x)).alloc (BO x)) (.slice (some ⟨wr.heap.size + 1, 0, none⟩) 1 1) [x]) := at_two wr x
        clear g
        go_wp2_with (at_builtin; refine wpList_row _ rfl _ _ 22 rfl EO (fun _ => True) w.heap.size 27 j0 _ 32 Try.underlying22 hj hy0 hy1 hy2 rfl _ ((l.take k).filter p) rfl HR3.out _ [x] rfl HO.out (by have := HLEN.out; unfold maxLen; simp only [List.length_cons, List.length_nil]; omega) (by have := HLEN.out; simp only [List.length_cons, List.length_nil]; omega) (by simp; omega) ?_; intro v7 w7 hrow7 hg7 hloc7)
        have HEND : Hid (Row EO w7 w.heap.size 27 v7 ((l.take (k + 1)).filter p) ∧ Below w.heap.size w w7) := ⟨by rw [HG.out]; exact hrow7, HB3.out.grown hg7 (by simp; omega) (fun k hk => (HR3.out.lt k hk).1)⟩
        clear hrow7 hg7 hloc7
        obtain ⟨p7, c7, hv7⟩ := HEND.out.1.slice
        obtain ⟨n7, hn7⟩ : ∃ n7, ((l.take (k + 1)).filter p).length = n7 := ⟨_, rfl⟩
        rw [hn7] at hv7
        subst hv7
        clear hn7
        go_wp2
        go_roundw
        case rel => exact ⟨k + 1, p7, n7, c7, by omega, by go_num, rfl, HEND.out.1, HEND.out.2⟩
        case measure => simp [intOf]; omega
      · have HG : Hid ((l.take (k + 1)).filter p = (l.take k).filter p) := Op.filter_out HXK.out (by rw [HP.out]; simp [g])
        have g1 : (x.2.1 == c) = false := beq_eq_false_iff_ne.2 g
        have HR2 : Hid (Row EO (wr.alloc (BO x)) w.heap.size 27 (.slice pp jj q) ((l.take k).filter p)) := HR.out.up ((Below.refl _ _).alloc (Nat.le_refl _) _)
        clear g
        go_wp2
        go_roundw
        case rel => exact ⟨k + 1, pp, jj, q, by omega, by go_num, rfl, by rw [HG.out]; exact HR2.out, HB.out.alloc hsz _⟩
        case measure => simp [intOf]; omega
    · obtain rfl : k = n := by omega
      have HEND : Hid (At EO (fun b => w.heap.size ≤ b) wr (.slice pp jj q) (Op.owned l c)) := by
        have := HR.out.at
        rw [← HN.out, List.take_length, HP.out] at this
        exact this
      go_wp2
      go_ret
      exact ⟨_, _, _, rfl, HEND.out, HB.out⟩
set_option maxHeartbeats 1000000 in
theorem index_any (v : Value) (l : List Opn) (y : Opn) (w : World) (hv : AtW EO w v l) :
    Calls Try.prog 34 #[v, VO y] w fun e w' => ∃ i : Int, e = .returned (.int .i64 i) ∧ (0 ≤ i ↔ y ∈ l) ∧ Below w.heap.size w w' := by
  obtain ⟨ao, cap, rfl, hm, hx⟩ := hv.open
  clear hv
  unfold maxLen at hm
  obtain ⟨n, hn⟩ : ∃ n, l.length = n := ⟨_, rfl⟩
  rw [hn] at hm ⊢
  have HN : Hid (l.length = n) := hn
  have HX : Hid (Over w ao l) := hx
  obtain ⟨W, hW⟩ : ∃ W, W = w.alloc (BO y) := ⟨_, rfl⟩
  have HB0 : Hid (Below w.heap.size w W) := by show Below w.heap.size w W; rw [hW]; exact (Below.refl _ w).alloc (Nat.le_refl _) _
  have HA0 : Hid (W.heap[w.heap.size]? = some (BO y)) := by show W.heap[w.heap.size]? = some (BO y); rw [hW]; exact heap_alloc_new w (BO y)
  clear hn hx
  go_enter Try.func34, Try.ntmps34
  go_wp2
  rw [← hW]
  clear hW
  go_loopw [5, 8] (fun t i wr => ∃ (k : Nat), k ≤ n ∧ i = .int .i64 k ∧ Hid (y ∉ l.take k) ∧ Hid (Below W.heap.size W wr)) (fun _ i _ => n - (intOf i).toNat)
  case atStart => exact ⟨0, Nat.zero_le _, rfl, by show y ∉ l.take 0; simp, Below.refl _ _⟩
  case round =>
    obtain ⟨k, hk, rfl, HM, HB⟩ := hrel
    have HB1 : Hid (Below w.heap.size w wr) := HB0.out.trans (HB.out.mono HB0.out.size)
    obtain ⟨⟨z0, z1, z2, z3⟩, -⟩ := opn_of ((HB.out.block _ (Array.getElem?_eq_some_iff.1 HA0.out).1).trans HA0.out)
    by_cases hlt : k < n
    · obtain ⟨x, hxk⟩ : ∃ x, l[k]? = some x := ⟨_, List.getElem?_eq_getElem (by rw [HN.out]; exact hlt)⟩
      have HXK : Hid (l[k]? = some x) := hxk
      obtain ⟨b, off, rfl, -, hB, hc⟩ := HX.out k x hxk
      obtain ⟨c0, c1, c2, c3⟩ := opn_cells HB1.out hB hc
      clear hc hxk
      have hlt' : (k : Int) < (n : Int) := by omega
      by_cases g : y = x
      · subst g
        have H : Hid (y ∈ l) := List.mem_of_getElem? HXK.out
        go_wp2
        go_quiet (fail)
        go_wp2
        go_ret
        exact ⟨k, rfl, ⟨fun _ => H.out, fun _ => by omega⟩, below_drewN HB1.out _⟩
      · have HM2 : Hid (y ∉ l.take (k + 1)) := by
          show y ∉ l.take (k + 1)
          rw [Op.take_at HXK.out]
          simp [g, HM.out]
        have heq : ∀ w', (binOp .eql 27 (VO y) (VO x)).run Try.prog w' = .ok (.bool false) w' := fun w' => by rw [eql_opn, decide_eq_false g]
        clear g
        go_wp2
        go_quiet (fail)
        go_wp2
        go_roundw
        case rel => exact ⟨k + 1, by omega, by go_num, HM2, below_drewN HB.out _⟩
        case measure => simp [intOf]; omega
    · obtain rfl : k = n := by omega
      have H : Hid (y ∉ l) := by
        have := HM.out
        rwa [← HN.out, List.take_length] at this
      go_wp2
      go_ret
      exact ⟨-1, rfl, ⟨fun h => by omega, fun h => absurd h H.out⟩, HB1.out⟩
end Go.Proofs.Ytlikcijoejgkkaa
