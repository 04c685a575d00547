/-
  The document's memo: the statement's ref; which items, vectors, manifests and memos are right.
-/
import Derived.Test.YtlmoibicepppmaaDoorWPack
namespace Go.Proofs.YtlmoibicepppmaaDoor
open Go.ChangeShapes Go.WideShapes Go.ChangeAt Go.RowKit Go.Deep Me
set_option maxRecDepth 100000
abbrev BMr (m : Mm) (u z : Value) : Obj := .cells #[.int .i64 m.k, .int .i64 m.v, .int .i64 m.n, .int .i64 m.o, .int .i64 m.c, .int .i64 m.b, .int .i64 m.l, .int .i64 m.cl, u, z, .int .i64 m.mo, .int .i64 m.ms, .int .i64 m.mm, .int .i64 m.nu, .string m.d] 38
theorem mr_of {w : World} {A : Nat} {m : Mm} {u z : Value} (h : w.heap[A]? = some (BMr m u z)) : w.cell? ⟨A, 0, none⟩ = some (.int .i64 m.k) ∧ w.cell? ⟨A, 1, none⟩ = some (.int .i64 m.v) ∧ w.cell? ⟨A, 2, none⟩ = some (.int .i64 m.n) ∧ w.cell? ⟨A, 3, none⟩ = some (.int .i64 m.o) ∧ w.cell? ⟨A, 4, none⟩ = some (.int .i64 m.c) ∧ w.cell? ⟨A, 5, none⟩ = some (.int .i64 m.b) ∧ w.cell? ⟨A, 6, none⟩ = some (.int .i64 m.l) ∧ w.cell? ⟨A, 7, none⟩ = some (.int .i64 m.cl) ∧ w.cell? ⟨A, 8, none⟩ = some (u) ∧ w.cell? ⟨A, 9, none⟩ = some (z) ∧ w.cell? ⟨A, 10, none⟩ = some (.int .i64 m.mo) ∧ w.cell? ⟨A, 11, none⟩ = some (.int .i64 m.ms) ∧ w.cell? ⟨A, 12, none⟩ = some (.int .i64 m.mm) ∧ w.cell? ⟨A, 13, none⟩ = some (.int .i64 m.nu) ∧ w.cell? ⟨A, 14, none⟩ = some (.string m.d) := by
  refine ⟨?_, ?_, ?_, ?_, ?_, ?_, ?_, ?_, ?_, ?_, ?_, ?_, ?_, ?_, ?_⟩ <;> simp [World.cell?, h]
theorem mref_any (m : Mm) (u z : Value) (hu : ∃ p n c, u = .slice p n c) (hz : ∃ p n c, z = .slice p n c) (w : World) : Calls Tryd.prog 10 #[VM m u z] w fun e w' => e = .returned (VM m u z) ∧ Below w.heap.size w w' := by
  obtain ⟨p1, n1, c1, rfl⟩ := hu
  obtain ⟨p2, n2, c2, rfl⟩ := hz
  have HB : Hid (Below w.heap.size w ((w.alloc (BM m (.slice p1 n1 c1) (.slice p2 n2 c2))).alloc (BMr m (.slice p1 n1 c1) (.slice p2 n2 c2)))) := bup (below_alloc _ _) (below_alloc _ _)
  go_enter Tryd.func10, Tryd.ntmps10
  go_wp2
  (try simp only [Exit.inBlock, Exit.then])
  refine bodyPost_ret (v := VM m (.slice p1 n1 c1) (.slice p2 n2 c2)) (by simp [results, Tryd.results10, go_sem]) rfl ⟨rfl, HB.out⟩
set_option maxRecDepth 100000 in
set_option maxHeartbeats 1000000 in
theorem r5_any (x : It) (w : World) : Calls Tryd.prog 31 #[VI x] w fun e w' => e = .returned (.bool (okIt x)) ∧ Below w.heap.size w w' := by
  have HB : Hid (Below w.heap.size w (w.alloc (BI x))) := below_alloc _ _
  have HE : okIt x = (decide (0 ≤ x.v) && decide (x.v ≤ 1099511627776) && decide (0 ≤ x.c) && decide (x.c ≤ 1099511627776) && decide (1 ≤ x.r) && decide (x.r ≤ 1099511627776) && decide ((x.b.size : Int) ≤ 4096)) := by
    unfold okIt
    rw [Bool.eq_iff_iff]
    simp
    omega
  rw [HE]
  clear HE
  obtain ⟨t1, h1⟩ : ∃ t, decide (0 ≤ x.v) = t := ⟨_, rfl⟩
  obtain ⟨t2, h2⟩ : ∃ t, decide (x.v ≤ 1099511627776) = t := ⟨_, rfl⟩
  obtain ⟨t3, h3⟩ : ∃ t, decide (0 ≤ x.c) = t := ⟨_, rfl⟩
  obtain ⟨t4, h4⟩ : ∃ t, decide (x.c ≤ 1099511627776) = t := ⟨_, rfl⟩
  obtain ⟨t5, h5⟩ : ∃ t, decide (1 ≤ x.r) = t := ⟨_, rfl⟩
  obtain ⟨t6, h6⟩ : ∃ t, decide (x.r ≤ 1099511627776) = t := ⟨_, rfl⟩
  obtain ⟨t7, h7⟩ : ∃ t, decide ((x.b.size : Int) ≤ 4096) = t := ⟨_, rfl⟩
  rw [h1, h2, h3, h4, h5, h6, h7]
  cases t1 with
  | false =>
    go_enter Tryd.func31, Tryd.ntmps31
    go_wp2
    go_ret
    exact ⟨rfl, HB.out⟩
  | true =>
    cases t2 with
    | false =>
      go_enter Tryd.func31, Tryd.ntmps31
      go_wp2
      go_ret
      exact ⟨rfl, HB.out⟩
    | true =>
      cases t3 with
      | false =>
        go_enter Tryd.func31, Tryd.ntmps31
        go_wp2
        go_ret
        exact ⟨rfl, HB.out⟩
      | true =>
        cases t4 with
        | false =>
          go_enter Tryd.func31, Tryd.ntmps31
          go_wp2
          go_ret
          exact ⟨rfl, HB.out⟩
        | true =>
          cases t5 with
          | false =>
            go_enter Tryd.func31, Tryd.ntmps31
            go_wp2
            go_ret
            exact ⟨rfl, HB.out⟩
          | true =>
            cases t6 with
            | false =>
              go_enter Tryd.func31, Tryd.ntmps31
              go_wp2
              go_ret
              exact ⟨rfl, HB.out⟩
            | true =>
              cases t7 with
              | false =>
                go_enter Tryd.func31, Tryd.ntmps31
                go_wp2
                go_ret
                exact ⟨rfl, HB.out⟩
              | true =>
                go_enter Tryd.func31, Tryd.ntmps31
                go_wp2
                go_ret
                exact ⟨rfl, HB.out⟩
set_option maxRecDepth 100000 in
set_option maxHeartbeats 1000000 in
theorem r19_any (o s m : Int) (w : World) : Calls Tryd.prog 33 #[VMan o s m] w fun e w' => e = .returned (.bool (manR o s m)) ∧ Below w.heap.size w w' := by
  have HB : Hid (Below w.heap.size w (w.alloc (.cells #[.int .i64 o, .int .i64 s, .int .i64 m] 36))) := below_alloc _ _
  have HE : manR o s m = (decide (0 ≤ o) && decide (o ≤ 1099511627776) && decide (1 ≤ s) && decide (s ≤ 65535) && decide (0 ≤ m) && decide (m < 4294967296)) := by
    unfold manR
    rw [Bool.eq_iff_iff]
    simp
    omega
  rw [HE]
  clear HE
  obtain ⟨t1, h1⟩ : ∃ t, decide (0 ≤ o) = t := ⟨_, rfl⟩
  obtain ⟨t2, h2⟩ : ∃ t, decide (o ≤ 1099511627776) = t := ⟨_, rfl⟩
  obtain ⟨t3, h3⟩ : ∃ t, decide (1 ≤ s) = t := ⟨_, rfl⟩
  obtain ⟨t4, h4⟩ : ∃ t, decide (s ≤ 65535) = t := ⟨_, rfl⟩
  obtain ⟨t5, h5⟩ : ∃ t, decide (0 ≤ m) = t := ⟨_, rfl⟩
  obtain ⟨t6, h6⟩ : ∃ t, decide (m < 4294967296) = t := ⟨_, rfl⟩
  rw [h1, h2, h3, h4, h5, h6]
  cases t1 with
  | false =>
    go_enter Tryd.func33, Tryd.ntmps33
    go_wp2
    go_ret
    exact ⟨rfl, HB.out⟩
  | true =>
    cases t2 with
    | false =>
      go_enter Tryd.func33, Tryd.ntmps33
      go_wp2
      go_ret
      exact ⟨rfl, HB.out⟩
    | true =>
      cases t3 with
      | false =>
        go_enter Tryd.func33, Tryd.ntmps33
        go_wp2
        go_ret
        exact ⟨rfl, HB.out⟩
      | true =>
        cases t4 with
        | false =>
          go_enter Tryd.func33, Tryd.ntmps33
          go_wp2
          go_ret
          exact ⟨rfl, HB.out⟩
        | true =>
          cases t5 with
          | false =>
            go_enter Tryd.func33, Tryd.ntmps33
            go_wp2
            go_ret
            exact ⟨rfl, HB.out⟩
          | true =>
            cases t6 with
            | false =>
              go_enter Tryd.func33, Tryd.ntmps33
              go_wp2
              go_ret
              exact ⟨rfl, HB.out⟩
            | true =>
              go_enter Tryd.func33, Tryd.ntmps33
              go_wp2
              go_ret
              exact ⟨rfl, HB.out⟩
theorem rnone_any (o s m : Int) (w : World) : Calls Tryd.prog 20 #[VMan o s m] w fun e w' => e = .returned (.bool (manZ o s m)) ∧ Below w.heap.size w w' := by
  have HB : Hid (Below w.heap.size w (w.alloc (.cells #[.int .i64 o, .int .i64 s, .int .i64 m] 36))) := below_alloc _ _
  unfold manZ
  obtain ⟨t1, h1⟩ : ∃ t, (o == 0) = t := ⟨_, rfl⟩
  obtain ⟨t2, h2⟩ : ∃ t, (s == 0) = t := ⟨_, rfl⟩
  obtain ⟨t3, h3⟩ : ∃ t, (m == 0) = t := ⟨_, rfl⟩
  rw [h1, h2, h3]
  cases t1 with
  | false =>
    go_enter Tryd.func20, Tryd.ntmps20
    go_wp2
    go_ret
    exact ⟨rfl, HB.out⟩
  | true =>
    cases t2 with
    | false =>
      go_enter Tryd.func20, Tryd.ntmps20
      go_wp2
      go_ret
      exact ⟨rfl, HB.out⟩
    | true =>
      cases t3 with
      | false =>
        go_enter Tryd.func20, Tryd.ntmps20
        go_wp2
        go_ret
        exact ⟨rfl, HB.out⟩
      | true =>
        go_enter Tryd.func20, Tryd.ntmps20
        go_wp2
        go_ret
        exact ⟨rfl, HB.out⟩
theorem rpanel_any (n : Int) (w : World) : Calls Tryd.prog 50 #[.int .i64 n] w fun e w' => e = .returned (.bool (n == 1 || (n == 3 || (n == 5 || n == 7)))) ∧ w' = w := by
  obtain ⟨t1, h1⟩ : ∃ t, (n == 1) = t := ⟨_, rfl⟩
  obtain ⟨t2, h2⟩ : ∃ t, (n == 3) = t := ⟨_, rfl⟩
  obtain ⟨t3, h3⟩ : ∃ t, (n == 5) = t := ⟨_, rfl⟩
  obtain ⟨t4, h4⟩ : ∃ t, (n == 7) = t := ⟨_, rfl⟩
  rw [h1, h2, h3, h4]
  cases t1 with
  | true =>
    go_enter Tryd.func50, Tryd.ntmps50
    go_wp2
    go_ret
    exact ⟨rfl, rfl⟩
  | false =>
    cases t2 with
    | true =>
      go_enter Tryd.func50, Tryd.ntmps50
      go_wp2
      go_ret
      exact ⟨rfl, rfl⟩
    | false =>
      cases t3 with
      | true =>
        go_enter Tryd.func50, Tryd.ntmps50
        go_wp2
        go_ret
        exact ⟨rfl, rfl⟩
      | false =>
        cases t4 with
        | true =>
          go_enter Tryd.func50, Tryd.ntmps50
          go_wp2
          go_ret
          exact ⟨rfl, rfl⟩
        | false =>
          go_enter Tryd.func50, Tryd.ntmps50
          go_wp2
          go_ret
          exact ⟨rfl, rfl⟩
def Me.vecB (l : List Int) : Bool := l.all bigB && (decide (l.length = 1) || (decide (l.length = 3) || (decide (l.length = 5) || decide (l.length = 7))))
theorem Me.liv_vec (l : List Int) : livB l = (decide (l.length = 0) || vecB l) := by
  unfold livB vecB
  generalize l.length = n
  cases l.all bigB
  · simp
  · rw [Bool.eq_iff_iff]
    simp only [Bool.or_eq_true, Bool.and_eq_true, decide_eq_true_eq, and_true, true_and]
    omega
set_option maxRecDepth 100000 in
set_option maxHeartbeats 2000000 in
theorem r20_any (v : Value) (l : List Int) (w : World) (hv : AtW EI w v l) : Calls Tryd.prog 32 #[v] w fun e w' => e = .returned (.bool (vecB l)) ∧ w' = w := by
  obtain ⟨ao, cap, rfl, hm, hx⟩ := hv.open
  unfold maxLen at hm
  obtain ⟨n, hn⟩ : ∃ n, l.length = n := ⟨_, rfl⟩
  have HN : Hid (l.length = n) := hn
  rw [hn] at hm ⊢
  have HX : Hid (∀ i x, l[i]? = some x → ∃ b off, ao = some ⟨b, off, none⟩ ∧ True ∧ b < w.heap.size ∧ ∀ k u, (EI.cells x)[k]? = some u → w.cell? ⟨b, off + (i * EI.sz + k), none⟩ = some u) := hx
  obtain ⟨ans, hans⟩ : ∃ ans, vecB l = ans := ⟨_, rfl⟩
  have HANS : Hid (vecB l = ans) := hans
  rw [hans]
  clear hn hx hv hans
  go_enter Tryd.func32, Tryd.ntmps32
  go_wp2
  go_loop [7] (fun i => ∃ k : Nat, k ≤ n ∧ i = .int .i64 k ∧ Hid ((l.take k).all bigB = true)) (fun i => n - (intOf i).toNat)
  case atStart => exact ⟨0, Nat.zero_le _, rfl, rfl⟩
  case round =>
    obtain ⟨k, hk, rfl, HP⟩ := hrel
    by_cases hlt : k < n
    · obtain ⟨y, hyk⟩ : ∃ y, l[k]? = some y := ⟨_, List.getElem?_eq_getElem (by rw [HN.out]; exact hlt)⟩
      obtain ⟨b2, off, rfl, -, hB, hc⟩ := HX.out k y hyk
      have d0 : w.cell? ⟨b2, off + k, none⟩ = some (.int .i64 y) := by have := hc 0 _ rfl; simpa [EI] using this
      have hlt' : (k : Int) < (n : Int) := by omega
      have HYM : Hid (y ∈ l) := List.mem_of_getElem? hyk
      have HTA : Hid ((l.take (k + 1)).all bigB = ((l.take k).all bigB && bigB y)) := by show _ = _; rw [List.take_add_one, hyk]; simp
      clear hc hyk hB
      by_cases h1 : y < 0
      · have HA : Hid (ans = false) := by
          show ans = false
          rw [← HANS.out]
          have : l.all bigB = false := List.all_eq_false.2 ⟨y, HYM.out, by simp [bigB]; omega⟩
          unfold vecB
          rw [this, Bool.false_and]
        have h1' : decide (y < 0) = true := decide_eq_true h1
        go_wp2
        go_ret
        exact ⟨by rw [HA.out]; rfl, rfl⟩
      · have h1' : decide (y < 0) = false := decide_eq_false h1
        by_cases h2 : 1099511627776 < y
        · have HA : Hid (ans = false) := by
            show ans = false
            rw [← HANS.out]
            have : l.all bigB = false := List.all_eq_false.2 ⟨y, HYM.out, by simp [bigB]; omega⟩
            unfold vecB
            rw [this, Bool.false_and]
          have h2' : decide (1099511627776 < y) = true := decide_eq_true h2
          go_wp2
          go_ret
          exact ⟨by rw [HA.out]; rfl, rfl⟩
        · have h2' : decide (1099511627776 < y) = false := decide_eq_false h2
          have HP2 : Hid ((l.take (k + 1)).all bigB = true) := by
            show _ = _
            rw [HTA.out, HP.out]
            simp [bigB]
            omega
          go_wp2
          go_round
          case rel => exact ⟨k + 1, by omega, by go_num, HP2⟩
          case measure => simp [intOf]; omega
    · obtain rfl : n = k := by omega
      have HA : Hid (((n : Int) == 1 || ((n : Int) == 3 || ((n : Int) == 5 || (n : Int) == 7))) = ans) := by
        show _ = _
        have h := HP.out
        rw [← HN.out, List.take_length] at h
        rw [← HANS.out]
        unfold vecB
        rw [h, HN.out, Bool.eq_iff_iff]
        simp
        omega
      go_wp2_with fail
      refine (rpanel_any _ _).mono ?_
      rintro e w' ⟨rfl, rfl⟩
      rw [HA.out]
      go_wp2
      go_ret
      exact ⟨rfl, rfl⟩
end Go.Proofs.YtlmoibicepppmaaDoor
