/-
  The document's tally: Add.
-/
import Derived.Test.YtdcknokggjbebaaYRef
namespace Go.Proofs.Ytdcknokggjbebaa
open Go.ChangeShapes Go.WideShapes Go.ChangeAt Go.RowKit Go.Deep
set_option maxRecDepth 100000 in
set_option maxHeartbeats 8000000 in
theorem radd_no {B s : Nat} {m : Int} {L : List Bd} (b : Bd) (w : World) (h : RA w B s m L) (hb : ¬ Ty.Fits m b) : Calls Try.prog 11 #[.pointer (some ⟨s, 0, none⟩), VB b] w fun e w' => e = .returned (.tuple #[.bool false, .int .i64 1]) ∧ w.grownBy w' none := by
  obtain ⟨p, n, cap, hs, hr⟩ := h.out
  have hs' : (w.alloc (BR b)).heap[s]? = some (.cells #[.int .i64 m, .slice p n cap] 45) := (Below.heap_alloc _ _ _ h.lt).trans hs
  obtain ⟨⟨c0, -⟩, -⟩ := ra_cells hs'
  have HG : Hid (∀ q, w.grownBy ((w.alloc (BR b)).drewN q) none) := fun q => grown_drew (World.grownBy_alloc _ _ none) q
  clear h hs hr hs'
  unfold Ty.Fits at hb
  obtain ⟨t1, h1⟩ : ∃ t1, decide (b.1 < 0) = t1 := ⟨_, rfl⟩
  obtain ⟨t2, h2⟩ : ∃ t2, decide (m ≤ b.1) = t2 := ⟨_, rfl⟩
  obtain ⟨t3, h3⟩ : ∃ t3, decide (b.2.1 < 0) = t3 := ⟨_, rfl⟩
  obtain ⟨t4, h4⟩ : ∃ t4, decide (1099511627776 < b.2.1) = t4 := ⟨_, rfl⟩
  obtain ⟨t5, h5⟩ : ∃ t5, decide (b.2.2 < 0) = t5 := ⟨_, rfl⟩
  obtain ⟨t6, h6⟩ : ∃ t6, decide (1099511627776 < b.2.2) = t6 := ⟨_, rfl⟩
  have hall : (t1 || t2 || t3 || t4 || t5 || t6) = true := by
    subst h1 h2 h3 h4 h5 h6
    simp
    omega
  clear hb
  cases t1
  · cases t2
    · cases t3
      · cases t4
        · cases t5
          · cases t6
            · simp at hall
            all_goals skip
            go_enter Try.func11, Try.ntmps11
            go_wp2
            go_quiet (fail)
            go_wp2
            go_ret2
            exact ⟨rfl, HG.out _⟩
          · go_enter Try.func11, Try.ntmps11
            go_wp2
            go_quiet (fail)
            go_wp2
            go_ret2
            exact ⟨rfl, HG.out _⟩
        · go_enter Try.func11, Try.ntmps11
          go_wp2
          go_quiet (fail)
          go_wp2
          go_ret2
          exact ⟨rfl, HG.out _⟩
      · go_enter Try.func11, Try.ntmps11
        go_wp2
        go_quiet (fail)
        go_wp2
        go_ret2
        exact ⟨rfl, HG.out _⟩
    · go_enter Try.func11, Try.ntmps11
      go_wp2
      go_quiet (fail)
      go_wp2
      go_ret2
      exact ⟨rfl, HG.out _⟩
  · go_enter Try.func11, Try.ntmps11
    go_wp2
    go_quiet (fail)
    go_wp2
    go_ret2
    exact ⟨rfl, HG.out _⟩
set_option maxRecDepth 100000 in
set_option maxHeartbeats 16000000 in
theorem radd_yes {B s : Nat} {m : Int} {L : List Bd} (b : Bd) (w : World) (h : RA w B s m L) (hl : L.length ≤ 7) (hb : Ty.Fits m b) : Calls Try.prog 11 #[.pointer (some ⟨s, 0, none⟩), VB b] w fun e w' => e = .returned (.tuple #[.bool (!Ty.has L b.1), .int .i64 0]) ∧ RA w' B s m (Ty.add L b) ∧ w.grownBy w' (some s) := by
  obtain ⟨p0, n0, cap0, hs, hr⟩ := h.out
  have hs' : (w.alloc (BR b)).heap[s]? = some (.cells #[.int .i64 m, .slice p0 n0 cap0] 45) := (Below.heap_alloc _ _ _ h.lt).trans hs
  obtain ⟨⟨c0, -⟩, -⟩ := ra_cells hs'
  have HL : Hid (L.length ≤ 7) := hl
  have HP : Hid (0 ≤ b.1 ∧ b.1 < m) := hb.1
  have HW0 : Hid (∀ q, RA ((w.alloc (BR b)).drewN q) B s m L ∧ w.grownBy ((w.alloc (BR b)).drewN q) none ∧ ((w.alloc (BR b)).drewN q).heap[w.heap.size]? = some (BR b)) := fun q => by
    have hg := grown_drew (World.grownBy_alloc w (BR b) none) q
    exact ⟨h.still hg, hg, heap_alloc_new w _⟩
  obtain ⟨i0, hi, hz0, hz1, hz2⟩ := info_parts infoR
  obtain ⟨ans, hans⟩ : ∃ ans, Ty.has L b.1 = ans := ⟨_, rfl⟩
  have HANS : Hid (Ty.has L b.1 = ans) := hans
  rw [hans]
  have h1 : decide (b.1 < 0) = false := by have := hb.1; simp; omega
  have h2 : decide (m ≤ b.1) = false := by have := hb.1; simp; omega
  have h3 : decide (b.2.1 < 0) = false := by have := hb.2.1; simp; omega
  have h4 : decide (1099511627776 < b.2.1) = false := by have := hb.2.1; simp; omega
  have h5 : decide (b.2.2 < 0) = false := by have := hb.2.2; simp; omega
  have h6 : decide (1099511627776 < b.2.2) = false := by have := hb.2.2; simp; omega
  clear h hs hr hs' hl hb hans
  go_enter Try.func11, Try.ntmps11
  go_wp2
  go_quiet (fail)
  go_wp2_with fail
  generalize hWW : World.drewN _ _ = W
  obtain ⟨A, hA⟩ : ∃ A, w.heap.size = A := ⟨_, rfl⟩
  have HW : Hid (RA W B s m L ∧ w.grownBy W none ∧ W.heap[A]? = some (BR b)) := by rw [← hWW, ← hA]; exact HW0.out _
  rw [hA]
  clear hWW hA c0 h1 h2 h3 h4 h5 h6
  refine (rforget_yes _ _ HW.out.1 HL.out HP.out).mono ?_
  rintro e w1 ⟨rfl, hr1, hg1⟩
  rw [HANS.out]
  have H1 : Hid (RA w1 B s m (Ty.del L b.1)) := hr1
  have HG1 : Hid (w.grownBy w1 (some s)) := grown_trans (grown_any HW.out.2.1 _) hg1
  have HX1 : Hid (w1.heap[A]? = some (BR b)) := by
    have hAs : A ≠ s := fun e => by
      obtain ⟨p, n, c, h1, -⟩ := HW.out.1.out
      have h2 := HW.out.2.2
      rw [e, h1] at h2
      simp at h2
    exact (hg1.block A (Array.getElem?_eq_some_iff.1 HW.out.2.2).1 (fun e => hAs (Option.some.inj e))).trans HW.out.2.2
  obtain ⟨L', hL'⟩ : ∃ L', Ty.del L b.1 = L' := ⟨_, rfl⟩
  have HLL : Hid (Ty.del L b.1 = L') := hL'
  rw [hL'] at H1
  obtain ⟨p, n, cap, hs1, hrow⟩ := H1.out.out
  have HS1 : Hid (w1.heap[s]? = some (.cells #[.int .i64 m, .slice p n cap] 45)) := hs1
  obtain ⟨⟨c0, c1⟩, -⟩ := ra_cells hs1
  obtain ⟨ao, cap', hv, -, hx⟩ := hrow.at.wide.open
  simp only [Value.slice.injEq] at hv
  obtain ⟨rfl, hn, rfl⟩ := hv
  have HN : Hid (n = L'.length) := hn
  have hn7 : n ≤ 7 := by rw [hn, ← hL']; exact Nat.le_trans (List.length_filter_le _ _) HL.out
  have HX : Hid (OverB w1 p L') := hx
  obtain ⟨low', hlow⟩ : ∃ low', L'.filter (fun x => decide (x.1 < b.1)) = low' := ⟨_, rfl⟩
  have HLOW : Hid (L'.filter (fun x => decide (x.1 < b.1)) = low') := hlow
  have HLO : Hid (low'.length ≤ 7) := by
    show low'.length ≤ 7
    rw [← hlow]
    exact Nat.le_trans (List.length_filter_le _ _) (by rw [← hn]; exact hn7)
  clear hs1 hrow hx hn hL' hr1 hg1 hlow
  go_wp2
  go_loopw [8, 57] (fun u i wr => ∃ (k : Nat) (pp : Option Addr) (jj q : Nat), k ≤ n ∧ i = .int .i64 k ∧ u = .slice pp jj q ∧ Hid (Row EB wr w1.heap.size 39 (.slice pp jj q) ((L'.take k).filter (fun x => decide (x.1 < b.1)))) ∧ Hid (Below w1.heap.size w1 wr)) (fun _ i _ => n - (intOf i).toNat)
  case atStart => exact ⟨0, none, 0, 0, Nat.zero_le _, rfl, rfl, Row.nil _ _ _ _, Below.refl _ _⟩
  case round =>
    obtain ⟨k, pp, jj, q, hk, rfl, rfl, HR, HB⟩ := hrel
    have hsz := HB.out.size
    have HBXK : Hid (wr.heap[A]? = some (BR b)) := (HB.out.block A (Array.getElem?_eq_some_iff.1 HX1.out).1).trans HX1.out
    by_cases hlt : k < n
    · obtain ⟨x, hxk⟩ : ∃ x, L'[k]? = some x := ⟨_, List.getElem?_eq_getElem (by rw [← HN.out]; exact hlt)⟩
      obtain ⟨bb, off, rfl, -, hB, hc⟩ := HX.out k x hxk
      obtain ⟨d0, d1, d2⟩ := bid_cells HB.out hB hc
      obtain ⟨⟨a0, -, -⟩, -⟩ := bid_of HBXK.out
      have a0' := fun o => (cell_older (World.block_lt_of_cell? _ _ a0) o 0).trans a0
      have hlt' : (k : Int) < (n : Int) := by omega
      have HFA : Hid (((L'.take (k + 1)).filter (fun x => decide (x.1 < b.1))) = ((L'.take k).filter (fun x => decide (x.1 < b.1))) ++ (if (((fun x => decide (x.1 < b.1))) x) = true then [x] else [])) := Ty.filter_at ((fun x => decide (x.1 < b.1))) hxk
      clear hc hxk hB a0
      by_cases hne : x.1 < b.1
      · have HE : Hid (((L'.take (k + 1)).filter (fun x => decide (x.1 < b.1))) = ((L'.take k).filter (fun x => decide (x.1 < b.1))) ++ [x]) := by show _ = _; rw [HFA.out]; simp [hne]
        have HUP : Hid (Below wr.heap.size wr ((wr.alloc (BR x)).alloc (BR x))) := ((Below.refl _ _).alloc (Nat.le_refl _) _).alloc (by simp) _
        have HR2 : Hid (Row EB ((wr.alloc (BR x)).alloc (BR x)) w1.heap.size 39 (.slice pp jj q) ((L'.take k).filter (fun x => decide (x.1 < b.1)))) := HR.out.up HUP.out
        have HB2 : Hid (Below w1.heap.size w1 ((wr.alloc (BR x)).alloc (BR x))) := (HB.out.alloc hsz _).alloc (by simp; omega) _
        have HO : Hid (AtW EB ((wr.alloc (BR x)).alloc (BR x)) (.slice (some ⟨wr.heap.size + 1, 0, none⟩) 1 1) [x]) := by
          have h2 := heap_alloc_new (wr.alloc (BR x)) (BR x)
          rw [show (wr.alloc (BR x)).heap.size = wr.heap.size + 1 by simp] at h2
          exact at_oneB h2
        have HLEN : Hid (((L'.take k).filter (fun x => decide (x.1 < b.1))).length ≤ k + 8) := by
          show _ ≤ _
          have h1 := Ty.filter_le ((fun x => decide (x.1 < b.1))) L' k
          have h2 := HLO.out
          (try simp only [List.length_append, List.length_cons, List.length_nil])
          omega
        skip
        go_wp2_with (at_builtin; refine wpList_row _ rfl _ _ 43 rfl EB (fun _ => True) w1.heap.size 39 i0 _ 24 Try.underlying43 hi hz0 hz1 hz2 rfl _ ((L'.take k).filter (fun x => decide (x.1 < b.1))) rfl HR2.out _ [x] rfl HO.out (by have := HLEN.out; unfold maxLen; simp only [List.length_cons, List.length_nil]; omega) (by have := HLEN.out; simp only [List.length_cons, List.length_nil]; omega) (by simp; omega) ?_; intro v7 w7 hrow7 hg7 hloc7)
        have HEND : Hid (Row EB w7 w1.heap.size 39 v7 ((L'.take (k + 1)).filter (fun x => decide (x.1 < b.1))) ∧ Below w1.heap.size w1 w7) := ⟨by rw [HE.out]; exact hrow7, HB2.out.grown hg7 (by simp; omega) (fun k hk => (HR2.out.lt k hk).1)⟩
        clear hrow7 hg7 hloc7
        obtain ⟨p7, n7, c7, rfl⟩ := HEND.out.1.slice3
        go_wp2
        go_roundw
        case rel => exact ⟨k + 1, p7, n7, c7, by omega, by go_num, rfl, HEND.out.1, HEND.out.2⟩
        case measure => simp [intOf]; omega
      · have HE : Hid (((L'.take (k + 1)).filter (fun x => decide (x.1 < b.1))) = ((L'.take k).filter (fun x => decide (x.1 < b.1)))) := by show _ = _; rw [HFA.out]; simp [hne]
        have HR2 : Hid (Row EB (wr.alloc (BR x)) w1.heap.size 39 (.slice pp jj q) ((L'.take (k + 1)).filter (fun x => decide (x.1 < b.1)))) := by rw [HE.out]; exact HR.out.up ((Below.refl _ _).alloc (Nat.le_refl _) _)
        have HB2 : Hid (Below w1.heap.size w1 (wr.alloc (BR x))) := HB.out.alloc hsz _
        have hne2 : ¬ x.1 < b.1 := hne
        go_wp2
        go_roundw
        case rel => exact ⟨k + 1, pp, jj, q, by omega, by go_num, rfl, HR2.out, HB2.out⟩
        case measure => simp [intOf]; omega
    · obtain rfl : n = k := by omega
      have HLW : Hid ((L'.take n).filter (fun x => decide (x.1 < b.1)) = low') := by rw [HN.out, List.take_length]; exact HLOW.out
      rw [HLW.out] at HR
      have HUP : Hid (Below wr.heap.size wr (wr.alloc (BR b))) := (Below.refl _ _).alloc (Nat.le_refl _) _
      have HR2 : Hid (Row EB (wr.alloc (BR b)) w1.heap.size 39 (.slice pp jj q) low') := HR.out.up HUP.out
      have HB2 : Hid (Below w1.heap.size w1 (wr.alloc (BR b))) := HB.out.alloc hsz _
      have HO : Hid (AtW EB (wr.alloc (BR b)) (.slice (some ⟨wr.heap.size, 0, none⟩) 1 1) [b]) := at_oneB (heap_alloc_new _ _)
      obtain ⟨⟨a0, a1, a2⟩, -⟩ := bid_of HBXK.out
      have HSK : Hid (wr.heap[s]? = some (.cells #[.int .i64 m, .slice p n cap] 45)) := (HB.out.block s H1.out.lt).trans HS1.out
      go_wp2_with (at_builtin; refine wpList_row _ rfl _ _ 43 rfl EB (fun _ => True) w1.heap.size 39 i0 _ 24 Try.underlying43 hi hz0 hz1 hz2 rfl _ low' rfl HR2.out _ [b] rfl HO.out (by have := HLO.out; unfold maxLen; simp only [List.length_cons, List.length_nil]; omega) (by have := HLO.out; simp only [List.length_cons, List.length_nil]; omega) (by simp; omega) ?_; intro v7 w7 hrow7 hg7 hloc7; have HB7 : Hid (Below w1.heap.size w1 w7) := HB2.out.grown hg7 (by simp; omega) (fun k hk => (HR2.out.lt k hk).1); have HS7 : Hid (w7.heap[s]? = some (.cells #[.int .i64 m, .slice p n cap] 45)) := (HB7.out.block s H1.out.lt).trans HS1.out; obtain ⟨⟨f0, f1⟩, -⟩ := ra_cells HS7.out; obtain ⟨p7, n7, c7, rfl⟩ := hrow7.slice3; have HR7 : Hid (Row EB w7 w1.heap.size 39 (.slice p7 n7 c7) (low' ++ [b])) := hrow7; clear hrow7 hg7 hloc7)
      clear a0 a1 a2
      go_loopw [8, 80] (fun u i wr => ∃ (k : Nat) (pp : Option Addr) (jj q : Nat), k ≤ n ∧ i = .int .i64 k ∧ u = .slice pp jj q ∧ Hid (Row EB wr w1.heap.size 39 (.slice pp jj q) (low' ++ [b] ++ (L'.take k).filter (fun x => decide (b.1 < x.1)))) ∧ Hid (Below w1.heap.size w1 wr)) (fun _ i _ => n - (intOf i).toNat)
      case atStart => exact ⟨0, p7, n7, c7, Nat.zero_le _, rfl, rfl, (by show Row _ _ _ _ _ _; simpa using HR7.out), HB7.out⟩
      case round =>
        obtain ⟨k, pp, jj, q, hk, rfl, rfl, HR, HB⟩ := hrel
        have hsz := HB.out.size
        have HBXK : Hid (wr.heap[A]? = some (BR b)) := (HB.out.block A (Array.getElem?_eq_some_iff.1 HX1.out).1).trans HX1.out
        by_cases hlt : k < n
        · obtain ⟨x, hxk⟩ : ∃ x, L'[k]? = some x := ⟨_, List.getElem?_eq_getElem (by rw [← HN.out]; exact hlt)⟩
          obtain ⟨bb, off, rfl, -, hB, hc⟩ := HX.out k x hxk
          obtain ⟨d0, d1, d2⟩ := bid_cells HB.out hB hc
          obtain ⟨⟨a0, -, -⟩, -⟩ := bid_of HBXK.out
          have a0' := fun o => (cell_older (World.block_lt_of_cell? _ _ a0) o 0).trans a0
          have hlt' : (k : Int) < (n : Int) := by omega
          have HFA : Hid (((L'.take (k + 1)).filter (fun x => decide (b.1 < x.1))) = ((L'.take k).filter (fun x => decide (b.1 < x.1))) ++ (if (((fun x => decide (b.1 < x.1))) x) = true then [x] else [])) := Ty.filter_at ((fun x => decide (b.1 < x.1))) hxk
          clear hc hxk hB a0
          by_cases hne : b.1 < x.1
          · have HE : Hid ((low' ++ [b] ++ (L'.take (k + 1)).filter (fun x => decide (b.1 < x.1))) = (low' ++ [b] ++ (L'.take k).filter (fun x => decide (b.1 < x.1))) ++ [x]) := by show _ = _; rw [HFA.out]; simp [hne]
            have HUP : Hid (Below wr.heap.size wr ((wr.alloc (BR x)).alloc (BR x))) := ((Below.refl _ _).alloc (Nat.le_refl _) _).alloc (by simp) _
            have HR2 : Hid (Row EB ((wr.alloc (BR x)).alloc (BR x)) w1.heap.size 39 (.slice pp jj q) (low' ++ [b] ++ (L'.take k).filter (fun x => decide (b.1 < x.1)))) := HR.out.up HUP.out
            have HB2 : Hid (Below w1.heap.size w1 ((wr.alloc (BR x)).alloc (BR x))) := (HB.out.alloc hsz _).alloc (by simp; omega) _
            have HO : Hid (AtW EB ((wr.alloc (BR x)).alloc (BR x)) (.slice (some ⟨wr.heap.size + 1, 0, none⟩) 1 1) [x]) := by
              have h2 := heap_alloc_new (wr.alloc (BR x)) (BR x)
              rw [show (wr.alloc (BR x)).heap.size = wr.heap.size + 1 by simp] at h2
              exact at_oneB h2
            have HLEN : Hid ((low' ++ [b] ++ (L'.take k).filter (fun x => decide (b.1 < x.1))).length ≤ k + 8) := by
              show _ ≤ _
              have h1 := Ty.filter_le ((fun x => decide (b.1 < x.1))) L' k
              have h2 := HLO.out
              (try simp only [List.length_append, List.length_cons, List.length_nil])
              omega
            skip
            go_wp2_with (at_builtin; refine wpList_row _ rfl _ _ 43 rfl EB (fun _ => True) w1.heap.size 39 i0 _ 24 Try.underlying43 hi hz0 hz1 hz2 rfl _ (low' ++ [b] ++ (L'.take k).filter (fun x => decide (b.1 < x.1))) rfl HR2.out _ [x] rfl HO.out (by have := HLEN.out; unfold maxLen; simp only [List.length_cons, List.length_nil]; omega) (by have := HLEN.out; simp only [List.length_cons, List.length_nil]; omega) (by simp; omega) ?_; intro v7 w7 hrow7 hg7 hloc7)
            have HEND : Hid (Row EB w7 w1.heap.size 39 v7 (low' ++ [b] ++ (L'.take (k + 1)).filter (fun x => decide (b.1 < x.1))) ∧ Below w1.heap.size w1 w7) := ⟨by rw [HE.out]; exact hrow7, HB2.out.grown hg7 (by simp; omega) (fun k hk => (HR2.out.lt k hk).1)⟩
            clear hrow7 hg7 hloc7
            obtain ⟨p7, n7, c7, rfl⟩ := HEND.out.1.slice3
            go_wp2
            go_roundw
            case rel => exact ⟨k + 1, p7, n7, c7, by omega, by go_num, rfl, HEND.out.1, HEND.out.2⟩
            case measure => simp [intOf]; omega
          · have HE : Hid ((low' ++ [b] ++ (L'.take (k + 1)).filter (fun x => decide (b.1 < x.1))) = (low' ++ [b] ++ (L'.take k).filter (fun x => decide (b.1 < x.1)))) := by show _ = _; rw [HFA.out]; simp [hne]
            have HR2 : Hid (Row EB (wr.alloc (BR x)) w1.heap.size 39 (.slice pp jj q) (low' ++ [b] ++ (L'.take (k + 1)).filter (fun x => decide (b.1 < x.1)))) := by rw [HE.out]; exact HR.out.up ((Below.refl _ _).alloc (Nat.le_refl _) _)
            have HB2 : Hid (Below w1.heap.size w1 (wr.alloc (BR x))) := HB.out.alloc hsz _
            have hne2 : ¬ b.1 < x.1 := hne
            go_wp2
            go_roundw
            case rel => exact ⟨k + 1, pp, jj, q, by omega, by go_num, rfl, HR2.out, HB2.out⟩
            case measure => simp [intOf]; omega
        · obtain rfl : n = k := by omega
          have HEQ : Hid (low' ++ [b] ++ (L'.take n).filter (fun x => decide (b.1 < x.1)) = Ty.add L b) := by
            show _ = _
            rw [HN.out, List.take_length, ← HLOW.out, ← HLL.out]
            show Ty.low (Ty.del L b.1) b.1 ++ [b] ++ Ty.high (Ty.del L b.1) b.1 = _
            rw [Ty.low_del, Ty.high_del]
            rfl
          have HSK : Hid (wr.heap[s]? = some (.cells #[.int .i64 m, .slice p n cap] 45)) := (HB.out.block s H1.out.lt).trans HS1.out
          obtain ⟨⟨f0, f1⟩, hfz⟩ := ra_cells HSK.out
          have hset := H1.out.set HB.out (p := pp) (n := jj) (c := q) (L' := Ty.add L b) (by rw [← HEQ.out]; exact HR.out)
          have HEND : Hid (RA (wr.setCell ⟨s, 1, none⟩ (.slice pp jj q)) B s m (Ty.add L b) ∧ w.grownBy (wr.setCell ⟨s, 1, none⟩ (.slice pp jj q)) (some s)) := ⟨hset.1, grown_trans HG1.out hset.2⟩
          clear hset
          go_wp2
          go_ret2
          exact ⟨rfl, HEND.out.1, HEND.out.2⟩
end Go.Proofs.Ytdcknokggjbebaa
