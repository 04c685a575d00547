/-
  The document's answer: sextonref16.Put, sextonref16.Drop.
-/
import Derived.Test.YtaojdndhhgmdmaaRef
namespace Go.Proofs.Ytaojdndhhgmdmaa
open Go.ChangeShapes Go.WideShapes Go.ChangeAt Go.RowKit Go.Deep
namespace Se
theorem filter_in {l : List Sea} {p : Sea → Bool} {k : Nat} {x : Sea} (h : l[k]? = some x) (hp : p x = true) : (l.take (k + 1)).filter p = (l.take k).filter p ++ [x] := by
  rw [take_at h, List.filter_append]
  simp [hp]
theorem filter_out {l : List Sea} {p : Sea → Bool} {k : Nat} {x : Sea} (h : l[k]? = some x) (hp : p x = false) : (l.take (k + 1)).filter p = (l.take k).filter p := by
  rw [take_at h, List.filter_append]
  simp [hp]
theorem filter_len (l : List Sea) (p : Sea → Bool) (k : Nat) : ((l.take k).filter p).length ≤ k := Nat.le_trans (List.length_filter_le _ _) (by simp; omega)
/-- Those of the first k below a client, above it, of others. -/
def low (l : List Sea) (c : Int) (k : Nat) : List Sea := (l.take k).filter (fun x => decide (x.1 < c))
def high (l : List Sea) (c : Int) (k : Nat) : List Sea := (l.take k).filter (fun x => decide (c < x.1))
def rest (l : List Sea) (c : Int) (k : Nat) : List Sea := (l.take k).filter (fun x => !(x.1 == c))
theorem low_len (l : List Sea) (c : Int) (k : Nat) : (low l c k).length ≤ k := filter_len _ _ _
theorem high_len (l : List Sea) (c : Int) (k : Nat) : (high l c k).length ≤ k := filter_len _ _ _
theorem rest_len (l : List Sea) (c : Int) (k : Nat) : (rest l c k).length ≤ k := filter_len _ _ _
theorem rest_all {l : List Sea} {c : Int} : (l.filter (fun x => !(x.1 == c))).length = l.length ↔ seat l c = none := by
  rw [List.length_filter_eq_length_iff]
  unfold seat
  rw [List.find?_eq_none]
  constructor
  · intro h x hx
    have := h x hx
    simpa using this
  · intro h x hx
    have := h x hx
    simpa using this
end Se
theorem sea_new (wr : World) (x : Sea) : Below wr.heap.size wr ((wr.alloc (BS x)).alloc (BS x)) := ((Below.refl _ _).alloc (Nat.le_refl _) _).alloc (by simp) _
set_option maxHeartbeats 2000000 in
theorem rdrop_any (v : Value) (l : List Sea) (c : Int) (w : World) (hv : AtW ES w v l) :
    Calls Try.prog 10 #[v, .int .i64 c] w fun e w' => ∃ p n q, e = .returned (.tuple #[.slice p n q, .int .i64 (Se.dropErr l c)]) ∧ At ES (fun b => w.heap.size ≤ b) w' (.slice p n q) (Se.dropped l c) ∧ Below w.heap.size w w' := by
  obtain ⟨ao, cap, rfl, hm, hx⟩ := hv.open
  unfold maxLen at hm
  obtain ⟨n, hn⟩ : ∃ n, l.length = n := ⟨_, rfl⟩
  rw [hn] at hm hv ⊢
  have HN : Hid (l.length = n) := hn
  have HX : Hid (Over w ao l) := hx
  have HV : Hid (AtW ES w (.slice ao n cap) l) := hv
  obtain ⟨j0, hj, hy0, hy1, hy2⟩ := info_parts infoS
  clear hn hx hv
  rcases Se.cErr_or l c with ⟨he, ho, hc⟩ | ⟨he, ho, hc⟩ | ⟨he, ho⟩
  · obtain ⟨h1, h2⟩ : ¬ c < 0 ∧ ¬ 1099511627776 < c := by obtain ⟨h1, h2⟩ := hc; omega
    have HO : Hid (Se.ok l = true) := ho
    have hn6 := Se.ok_len ho
    rw [HN.out] at hn6
    have HNO : Hid (Se.seat l c = none → Se.dropErr l c = 6 ∧ Se.dropped l c = []) := fun h => by
      have hd : Se.dropErr l c = 6 := by unfold Se.dropErr; rw [if_pos he, h]
      exact ⟨hd, if_neg (by rw [hd]; decide)⟩
    have HYES : Hid (¬ Se.seat l c = none → Se.dropErr l c = 0 ∧ Se.dropped l c = l.filter (fun x => !(x.1 == c))) := fun h => by
      have hd : Se.dropErr l c = 0 := by
        unfold Se.dropErr
        rw [if_pos he]
        cases hs : Se.seat l c with
        | none => exact absurd hs h
        | some y => rfl
      exact ⟨hd, if_pos hd⟩
    obtain ⟨de, hde⟩ : ∃ de, Se.dropErr l c = de := ⟨_, rfl⟩
    rw [hde]
    have HDE : Hid (Se.dropErr l c = de) := hde
    clear he ho hc hde
    go_enter Try.func10, Try.ntmps10
    go_wp2_with fail
    refine (rright_any _ l _ HV.out).mono ?_
    rintro e w1 ⟨rfl, hb⟩
    rw [HO.out]
    have HB1 : Hid (Below w.heap.size w w1) := hb
    clear hb
    go_wp2
    go_loopw [6, 20] (fun u i wr => ∃ (k : Nat) (pp : Option Addr) (jj q : Nat), k ≤ n ∧ i = .int .i64 k ∧ u = .slice pp jj q ∧ Hid (jj = (Se.rest l c k).length) ∧ Hid (Row ES wr w.heap.size 48 (.slice pp jj q) (Se.rest l c k)) ∧ Hid (Below w.heap.size w wr)) (fun _ i _ => n - (intOf i).toNat)
    case atStart => exact ⟨0, none, 0, 0, Nat.zero_le _, rfl, rfl, rfl, Row.nil _ _ _ _, HB1.out⟩
    case round =>
      obtain ⟨k, pp, jj, q, hk, rfl, rfl, HJ, HR, HB⟩ := hrel
      have hsz := HB.out.size
      by_cases hlt : k < n
      · obtain ⟨x, hxk⟩ : ∃ x, l[k]? = some x := ⟨_, List.getElem?_eq_getElem (by rw [HN.out]; exact hlt)⟩
        have HXK : Hid (l[k]? = some x) := hxk
        obtain ⟨b, off, rfl, -, hB, hc⟩ := HX.out k x hxk
        obtain ⟨c0, c1, c2⟩ := sea_cells HB.out hB hc
        clear hc hxk
        have hlt' : (k : Int) < (n : Int) := by omega
        by_cases g : x.1 = c
        · have HG : Hid (Se.rest l c (k + 1) = Se.rest l c k) := Se.filter_out HXK.out (by simp [g])
          have gc : (x.1 != c) = false := by simp [g]
          clear g
          go_wp2
          go_roundw
          case rel => exact ⟨k + 1, pp, jj, q, by omega, by go_num, rfl, by rw [HG.out]; exact HJ.out, by rw [HG.out]; exact HR.out.up ((Below.refl _ _).alloc (Nat.le_refl _) _), HB.out.alloc hsz _⟩
          case measure => simp [intOf]; omega
        · have HG : Hid (Se.rest l c (k + 1) = Se.rest l c k ++ [x]) := Se.filter_in HXK.out (by simp [g])
          have gc : (x.1 != c) = true := by simp [g]
          clear g
          have HLEN : Hid ((Se.rest l c k).length ≤ k) := Se.rest_len l c k
          have HR3 : Hid (Row ES ((wr.alloc (BS x)).alloc (BS x)) w.heap.size 48 (.slice pp jj q) (Se.rest l c k)) := HR.out.up (sea_new wr x)
          have HB4 : Hid (Below w.heap.size w ((wr.alloc (BS x)).alloc (BS x))) := (HB.out.alloc hsz _).alloc (by simp; omega) _
          have HO2 : Hid (AtW ES ((wr.alloc (BS x)).alloc (BS x)) (.slice (some ⟨wr.heap.size + 1, 0, none⟩) 1 1) [x]) := at_two wr x
          go_wp2_with (at_builtin; refine wpList_row _ rfl _ _ 22 rfl ES (fun _ => True) w.heap.size 48 j0 _ 32 Try.underlying22 hj hy0 hy1 hy2 rfl _ (Se.rest l c k) rfl HR3.out _ [x] rfl HO2.out (by have := HLEN.out; unfold maxLen; simp only [List.length_cons, List.length_nil]; omega) (by have := HLEN.out; simp only [List.length_cons, List.length_nil]; omega) (by simp; omega) ?_; intro v7 w7 hrow7 hg7 hloc7; have HEND : Hid (Row ES w7 w.heap.size 48 v7 (Se.rest l c (k + 1)) ∧ Below w.heap.size w w7) := ⟨by rw [HG.out]; exact hrow7, HB4.out.grown hg7 (by simp; omega) (fun k hk => (HR3.out.lt k hk).1)⟩; clear hrow7 hg7 hloc7; obtain ⟨p7, n7, c7, rfl⟩ := HEND.out.1.slice3)
          go_wp2
          go_roundw
          case rel => exact ⟨k + 1, p7, n7, c7, by omega, by go_num, rfl, by have := HEND.out.1.slice; obtain ⟨_, _, h⟩ := this; injection h, HEND.out.1, HEND.out.2⟩
          case measure => simp [intOf]; omega
      · obtain rfl : k = n := by omega
        have HRS : Hid (Se.rest l c k = l.filter (fun x => !(x.1 == c))) := by
          show (l.take k).filter _ = _
          rw [← HN.out, List.take_length]
        by_cases hj : jj = k
        · have hs : Se.seat l c = none := Se.rest_all.1 (by rw [← HRS.out, ← HJ.out, hj, HN.out])
          have HF : Hid (de = 6 ∧ Se.dropped l c = []) := ⟨HDE.out.symm.trans (HNO.out hs).1, (HNO.out hs).2⟩
          have hjb : ((jj : Int) == (k : Int)) = true := by simp; omega
          clear hs hj
          go_wp2
          go_ret2
          rw [HF.out.1, HF.out.2]
          exact ⟨_, _, _, rfl, At.nil, HB.out⟩
        · have hs : ¬ Se.seat l c = none := fun h => hj (by rw [HJ.out, HRS.out, Se.rest_all.2 h, HN.out])
          have HF : Hid (de = 0 ∧ Se.dropped l c = Se.rest l c k) := ⟨HDE.out.symm.trans (HYES.out hs).1, (HYES.out hs).2.trans HRS.out.symm⟩
          have hjb : ((jj : Int) == (k : Int)) = false := by rw [beq_eq_false_iff_ne]; omega
          clear hs hj
          go_wp2
          go_ret2
          rw [HF.out.1, HF.out.2]
          exact ⟨_, _, _, rfl, HR.out.at, HB.out⟩
  · have hde : Se.dropErr l c = 1 := by unfold Se.dropErr; rw [if_neg (by omega), he]
    have HDD : Hid (Se.dropped l c = []) := if_neg (by rw [hde]; decide)
    have HO : Hid (Se.ok l = true) := ho
    have HC : Hid (c < 0 ∨ 1099511627776 < c) := by
      by_cases h0 : c < 0
      · exact .inl h0
      · exact .inr (Int.not_le.1 fun h => hc ⟨by omega, h⟩)
    rw [hde, HDD.out]
    clear he ho hc hde
    by_cases h0 : c < 0
    · go_enter Try.func10, Try.ntmps10
      go_wp2_with fail
      refine (rright_any _ l _ HV.out).mono ?_
      rintro e w1 ⟨rfl, hb⟩
      rw [HO.out]
      have HB1 : Hid (Below w.heap.size w w1) := hb
      clear hb
      go_wp2
      go_ret2
      exact ⟨_, _, _, rfl, At.nil, HB1.out⟩
    · have h1 : 1099511627776 < c := HC.out.resolve_left h0
      go_enter Try.func10, Try.ntmps10
      go_wp2_with fail
      refine (rright_any _ l _ HV.out).mono ?_
      rintro e w1 ⟨rfl, hb⟩
      rw [HO.out]
      have HB1 : Hid (Below w.heap.size w w1) := hb
      clear hb
      go_wp2
      go_ret2
      exact ⟨_, _, _, rfl, At.nil, HB1.out⟩
  · have hde : Se.dropErr l c = 4 := by unfold Se.dropErr; rw [if_neg (by omega), he]
    have HDD : Hid (Se.dropped l c = []) := if_neg (by rw [hde]; decide)
    have HO : Hid (Se.ok l = false) := ho
    rw [hde, HDD.out]
    clear he ho hde
    go_enter Try.func10, Try.ntmps10
    go_wp2_with fail
    refine (rright_any _ l _ HV.out).mono ?_
    rintro e w1 ⟨rfl, hb⟩
    rw [HO.out]
    have HB1 : Hid (Below w.heap.size w w1) := hb
    clear hb
    go_wp2
    go_ret2
    exact ⟨_, _, _, rfl, At.nil, HB1.out⟩
set_option maxHeartbeats 4000000 in
theorem rput_any (v : Value) (l : List Sea) (c r : Int) (s : ByteArray) (w : World) (hv : AtW ES w v l) :
    Calls Try.prog 16 #[v, .int .i64 c, .int .i64 r, .string s] w fun e w' => ∃ p n q, e = .returned (.tuple #[.slice p n q, .int .i64 (Se.putErr l c r s)]) ∧ At ES (fun b => w.heap.size ≤ b) w' (.slice p n q) (Se.put l c r s) ∧ Below w.heap.size w w' := by
  obtain ⟨ao, cap, rfl, hm, hx⟩ := hv.open
  unfold maxLen at hm
  obtain ⟨n, hn⟩ : ∃ n, l.length = n := ⟨_, rfl⟩
  rw [hn] at hm hv ⊢
  have HN : Hid (l.length = n) := hn
  have HX : Hid (Over w ao l) := hx
  have HV : Hid (AtW ES w (.slice ao n cap) l) := hv
  obtain ⟨j0, hj, hy0, hy1, hy2⟩ := info_parts infoS
  obtain ⟨t, ht⟩ : ∃ t, Se.told l c r = t := ⟨_, rfl⟩
  have HT : Hid (Se.told l c r = t) := ht
  clear hn hx hv ht
  rcases Se.putErr_or l c r s with ⟨he, hr, hs, hw⟩ | ⟨he, hr, hs⟩ | ⟨he, hr, hs, hw⟩ | ⟨he, hr, hs, hw, hw1⟩ | ⟨he, hr⟩
  · have HR0 : Hid (Se.rErr l c r = 0 ∧ Se.what l c r = 1) := ⟨hr, hw⟩
    have hs' : ¬ (8192 : Int) < (s.size : Int) := by omega
    have HPT : Hid (Se.put l c r s = l.filter (fun x => decide (x.1 < c)) ++ [(c, r, s)] ++ l.filter (fun x => decide (c < x.1))) := if_pos he
    have hn6 : n ≤ 6 := by
      rcases Se.rErr_or l c r with ⟨_, _, h, _⟩ | ⟨_, _, h, _⟩ | ⟨h, h2⟩
      · have := Se.ok_len h; rwa [HN.out] at this
      · have := Se.ok_len h; rwa [HN.out] at this
      · omega
    rw [he]
    clear he hr hw
    go_enter Try.func16, Try.ntmps16
    go_wp2_with fail
    refine (rask_any _ l c r _ HV.out).mono ?_
    rintro e w1 ⟨rfl, hb⟩
    rw [HR0.out.1, HR0.out.2, HT.out]
    have HB1 : Hid (Below w.heap.size w w1) := hb
    clear hb
    go_wp2
    go_loopw [13, 38] (fun u i wr => ∃ (k : Nat) (pp : Option Addr) (jj q : Nat), k ≤ n ∧ i = .int .i64 k ∧ u = .slice pp jj q ∧ Hid (Row ES wr w.heap.size 48 (.slice pp jj q) (Se.low l c k)) ∧ Hid (Below w.heap.size w wr)) (fun _ i _ => n - (intOf i).toNat)
    case atStart => exact ⟨0, none, 0, 0, Nat.zero_le _, rfl, rfl, Row.nil _ _ _ _, HB1.out⟩
    case round =>
      obtain ⟨k, pp, jj, q, hk, rfl, rfl, HR, HB⟩ := hrel
      have hsz := HB.out.size
      by_cases hlt : k < n
      · obtain ⟨x, hxk⟩ : ∃ x, l[k]? = some x := ⟨_, List.getElem?_eq_getElem (by rw [HN.out]; exact hlt)⟩
        have HXK : Hid (l[k]? = some x) := hxk
        obtain ⟨b, off, rfl, -, hB, hc⟩ := HX.out k x hxk
        obtain ⟨c0, c1, c2⟩ := sea_cells HB.out hB hc
        clear hc hxk
        have hlt' : (k : Int) < (n : Int) := by omega
        by_cases g : x.1 < c
        · have HG : Hid (Se.low l c (k + 1) = Se.low l c k ++ [x]) := Se.filter_in HXK.out (by simp [g])
          have HLEN : Hid ((Se.low l c k).length ≤ k) := Se.low_len l c k
          have HR3 : Hid (Row ES ((wr.alloc (BS x)).alloc (BS x)) w.heap.size 48 (.slice pp jj q) (Se.low l c k)) := HR.out.up (sea_new wr x)
          have HB4 : Hid (Below w.heap.size w ((wr.alloc (BS x)).alloc (BS x))) := (HB.out.alloc hsz _).alloc (by simp; omega) _
          have HO2 : Hid (AtW ES ((wr.alloc (BS x)).alloc (BS x)) (.slice (some ⟨wr.heap.size + 1, 0, none⟩) 1 1) [x]) := at_two wr x
          go_wp2_with (at_builtin; refine wpList_row _ rfl _ _ 22 rfl ES (fun _ => True) w.heap.size 48 j0 _ 32 Try.underlying22 hj hy0 hy1 hy2 rfl _ (Se.low l c k) rfl HR3.out _ [x] rfl HO2.out (by have := HLEN.out; unfold maxLen; simp only [List.length_cons, List.length_nil]; omega) (by have := HLEN.out; simp only [List.length_cons, List.length_nil]; omega) (by simp; omega) ?_; intro v7 w7 hrow7 hg7 hloc7; have HEND : Hid (Row ES w7 w.heap.size 48 v7 (Se.low l c (k + 1)) ∧ Below w.heap.size w w7) := ⟨by rw [HG.out]; exact hrow7, HB4.out.grown hg7 (by simp; omega) (fun k hk => (HR3.out.lt k hk).1)⟩; clear hrow7 hg7 hloc7; obtain ⟨p7, n7, c7, rfl⟩ := HEND.out.1.slice3)
          go_wp2
          go_roundw
          case rel => exact ⟨k + 1, p7, n7, c7, by omega, by go_num, rfl, HEND.out.1, HEND.out.2⟩
          case measure => simp [intOf]; omega
        · have HG : Hid (Se.low l c (k + 1) = Se.low l c k) := Se.filter_out HXK.out (by simp; omega)
          go_wp2
          go_roundw
          case rel => exact ⟨k + 1, pp, jj, q, by omega, by go_num, rfl, by rw [HG.out]; exact HR.out.up ((Below.refl _ _).alloc (Nat.le_refl _) _), HB.out.alloc hsz _⟩
          case measure => simp [intOf]; omega
      · obtain rfl : k = n := by omega
        have HLEN : Hid ((Se.low l c k).length ≤ k) := Se.low_len l c k
        have HLL : Hid (Se.low l c k = l.filter (fun x => decide (x.1 < c))) := by
          show (l.take k).filter _ = _
          rw [← HN.out, List.take_length]
        have HRA : Hid (Row ES (wr.alloc (BS (c, r, s))) w.heap.size 48 (.slice pp jj q) (Se.low l c k)) := HR.out.up ((Below.refl _ _).alloc (Nat.le_refl _) _)
        have HBA : Hid (Below w.heap.size w (wr.alloc (BS (c, r, s)))) := HB.out.alloc hsz _
        have HOA : Hid (AtW ES (wr.alloc (BS (c, r, s))) (.slice (some ⟨wr.heap.size, 0, none⟩) 1 1) [(c, r, s)]) := at_one (heap_alloc_new wr _)
        clear HR
        go_wp2_with (at_builtin; refine wpList_row _ rfl _ _ 22 rfl ES (fun _ => True) w.heap.size 48 j0 _ 32 Try.underlying22 hj hy0 hy1 hy2 rfl _ (Se.low l c k) rfl HRA.out _ [(c, r, s)] rfl HOA.out (by have := HLEN.out; unfold maxLen; simp only [List.length_cons, List.length_nil]; omega) (by have := HLEN.out; simp only [List.length_cons, List.length_nil]; omega) (by simp; omega) ?_; intro v7 w7 hrow7 hg7 hloc7; have HE7 : Hid (Row ES w7 w.heap.size 48 v7 (Se.low l c k ++ [(c, r, s)]) ∧ Below w.heap.size w w7) := ⟨hrow7, HBA.out.grown hg7 (by simp; omega) (fun k hk => (HRA.out.lt k hk).1)⟩; clear hrow7 hg7 hloc7; obtain ⟨p7, n7, c7, rfl⟩ := HE7.out.1.slice3)
        generalize hmid : Se.low l c k ++ [(c, r, s)] = mid at HE7
        have HMID : Hid (Se.low l c k ++ [(c, r, s)] = mid ∧ mid.length ≤ k + 1) := ⟨hmid, by have := HLEN.out; rw [← hmid]; simp; omega⟩
        clear hmid HRA HBA HOA
        go_loopw [13, 60] (fun u i wr => ∃ (k2 : Nat) (pp : Option Addr) (jj q : Nat), k2 ≤ k ∧ i = .int .i64 k2 ∧ u = .slice pp jj q ∧ Hid (Row ES wr w.heap.size 48 (.slice pp jj q) (mid ++ Se.high l c k2)) ∧ Hid (Below w.heap.size w wr)) (fun _ i _ => k - (intOf i).toNat)
        case atStart => exact ⟨0, p7, n7, c7, Nat.zero_le _, rfl, rfl, by rw [show Se.high l c 0 = [] from rfl, List.append_nil]; exact HE7.out.1, HE7.out.2⟩
        case round =>
          clear HB HE7 hsz hlt
          obtain ⟨k2, pp, jj, q, hk2, rfl, rfl, HR, HB⟩ := hrel
          have hsz := HB.out.size
          by_cases hlt : k2 < k
          · obtain ⟨x, hxk⟩ : ∃ x, l[k2]? = some x := ⟨_, List.getElem?_eq_getElem (by rw [HN.out]; exact hlt)⟩
            have HXK : Hid (l[k2]? = some x) := hxk
            obtain ⟨b, off, rfl, -, hB, hc⟩ := HX.out k2 x hxk
            obtain ⟨c0, c1, c2⟩ := sea_cells HB.out hB hc
            clear hc hxk
            have hlt' : (k2 : Int) < (k : Int) := by omega
            by_cases g : c < x.1
            · have HG : Hid (mid ++ Se.high l c (k2 + 1) = mid ++ Se.high l c k2 ++ [x]) := by
                show mid ++ Se.high l c (k2 + 1) = mid ++ Se.high l c k2 ++ [x]
                rw [List.append_assoc]
                congr 1
                exact Se.filter_in HXK.out (by simp [g])
              have HLEN2 : Hid ((mid ++ Se.high l c k2).length ≤ 20) := by
                have h1 := Se.high_len l c k2
                have h2 := HMID.out.2
                show (mid ++ Se.high l c k2).length ≤ 20
                rw [List.length_append]
                omega
              have HR3 : Hid (Row ES ((wr.alloc (BS x)).alloc (BS x)) w.heap.size 48 (.slice pp jj q) (mid ++ Se.high l c k2)) := HR.out.up (sea_new wr x)
              have HB4 : Hid (Below w.heap.size w ((wr.alloc (BS x)).alloc (BS x))) := (HB.out.alloc hsz _).alloc (by simp; omega) _
              have HO2 : Hid (AtW ES ((wr.alloc (BS x)).alloc (BS x)) (.slice (some ⟨wr.heap.size + 1, 0, none⟩) 1 1) [x]) := at_two wr x
              go_wp2_with (at_builtin; refine wpList_row _ rfl _ _ 22 rfl ES (fun _ => True) w.heap.size 48 j0 _ 32 Try.underlying22 hj hy0 hy1 hy2 rfl _ (mid ++ Se.high l c k2) rfl HR3.out _ [x] rfl HO2.out (by have := HLEN2.out; unfold maxLen; simp only [List.length_cons, List.length_nil]; omega) (by have := HLEN2.out; simp only [List.length_cons, List.length_nil]; omega) (by simp; omega) ?_; intro v8 w8 hrow8 hg8 hloc8; have HEND : Hid (Row ES w8 w.heap.size 48 v8 (mid ++ Se.high l c (k2 + 1)) ∧ Below w.heap.size w w8) := ⟨by rw [HG.out]; exact hrow8, HB4.out.grown hg8 (by simp; omega) (fun k hk => (HR3.out.lt k hk).1)⟩; clear hrow8 hg8 hloc8; obtain ⟨p8, n8, c8, rfl⟩ := HEND.out.1.slice3)
              go_wp2
              go_roundw
              case rel => exact ⟨k2 + 1, p8, n8, c8, by omega, by go_num, rfl, HEND.out.1, HEND.out.2⟩
              case measure => simp [intOf]; omega
            · have HG : Hid (Se.high l c (k2 + 1) = Se.high l c k2) := Se.filter_out HXK.out (by simp; omega)
              go_wp2
              go_roundw
              case rel => exact ⟨k2 + 1, pp, jj, q, by omega, by go_num, rfl, by rw [HG.out]; exact HR.out.up ((Below.refl _ _).alloc (Nat.le_refl _) _), HB.out.alloc hsz _⟩
              case measure => simp [intOf]; omega
          · obtain rfl : k2 = k := by omega
            have HEND : Hid (Se.put l c r s = mid ++ Se.high l c k2) := by
              show Se.put l c r s = mid ++ (l.take k2).filter _
              rw [HPT.out, ← HMID.out.1, HLL.out, ← HN.out, List.take_length]
            go_wp2
            go_ret2
            rw [HEND.out]
            exact ⟨_, _, _, rfl, HR.out.at, HB.out⟩
  · obtain ⟨a, ha⟩ : ∃ a, Se.what l c r = a := ⟨_, rfl⟩
    have HR0 : Hid (Se.rErr l c r = 0 ∧ Se.what l c r = a) := ⟨hr, ha⟩
    have HPT : Hid (Se.put l c r s = []) := if_neg (by rw [he]; decide)
    have hs' : (8192 : Int) < (s.size : Int) := by omega
    rw [he]
    clear he hr ha
    go_enter Try.func16, Try.ntmps16
    go_wp2_with fail
    refine (rask_any _ l c r _ HV.out).mono ?_
    rintro e w1 ⟨rfl, hb⟩
    rw [HR0.out.1, HR0.out.2, HT.out]
    have HB1 : Hid (Below w.heap.size w w1) := hb
    clear hb
    go_wp2
    go_ret2
    exact ⟨_, _, _, rfl, by rw [HPT.out]; exact At.nil, HB1.out⟩
  · have HR0 : Hid (Se.rErr l c r = 0 ∧ Se.what l c r = 4) := ⟨hr, hw⟩
    have HPT : Hid (Se.put l c r s = []) := if_neg (by rw [he]; decide)
    have hs' : ¬ (8192 : Int) < (s.size : Int) := by omega
    rw [he]
    clear he hr hw
    go_enter Try.func16, Try.ntmps16
    go_wp2_with fail
    refine (rask_any _ l c r _ HV.out).mono ?_
    rintro e w1 ⟨rfl, hb⟩
    rw [HR0.out.1, HR0.out.2, HT.out]
    have HB1 : Hid (Below w.heap.size w w1) := hb
    clear hb
    go_wp2
    go_ret2
    exact ⟨_, _, _, rfl, by rw [HPT.out]; exact At.nil, HB1.out⟩
  · obtain ⟨a, ha⟩ : ∃ a, Se.what l c r = a := ⟨_, rfl⟩
    rw [ha] at hw hw1
    have HR0 : Hid (Se.rErr l c r = 0 ∧ Se.what l c r = a) := ⟨hr, ha⟩
    have HPT : Hid (Se.put l c r s = []) := if_neg (by rw [he]; decide)
    have hs' : ¬ (8192 : Int) < (s.size : Int) := by omega
    have h4 : (a == 4) = false := beq_eq_false_iff_ne.2 hw
    have h1 : (a != 1) = true := by simpa using hw1
    rw [he]
    clear he hr ha hw hw1
    go_enter Try.func16, Try.ntmps16
    go_wp2_with fail
    refine (rask_any _ l c r _ HV.out).mono ?_
    rintro e w1 ⟨rfl, hb⟩
    rw [HR0.out.1, HR0.out.2, HT.out]
    have HB1 : Hid (Below w.heap.size w w1) := hb
    clear hb
    go_wp2
    go_ret2
    exact ⟨_, _, _, rfl, by rw [HPT.out]; exact At.nil, HB1.out⟩
  · obtain ⟨a, ha⟩ : ∃ a, Se.rErr l c r = a := ⟨_, rfl⟩
    obtain ⟨b, hbb⟩ : ∃ b, Se.what l c r = b := ⟨_, rfl⟩
    have HPT : Hid (Se.put l c r s = []) := if_neg (by rw [he]; exact hr)
    rw [ha] at he hr
    have HR0 : Hid (Se.rErr l c r = a ∧ Se.what l c r = b) := ⟨ha, hbb⟩
    have hne : (a != 0) = true := by simpa using hr
    rw [he]
    clear he hr ha hbb
    go_enter Try.func16, Try.ntmps16
    go_wp2_with fail
    refine (rask_any _ l c r _ HV.out).mono ?_
    rintro e w1 ⟨rfl, hb⟩
    rw [HR0.out.1, HR0.out.2, HT.out]
    have HB1 : Hid (Below w.heap.size w w1) := hb
    clear hb
    go_wp2
    go_ret2
    exact ⟨_, _, _, rfl, by rw [HPT.out]; exact At.nil, HB1.out⟩
end Go.Proofs.Ytaojdndhhgmdmaa
