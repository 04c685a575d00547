/-
  itab's within and right: whether an inode may stand in a table.
-/
import Derived.Test.YtacghcoikekfeaaGreatTab
namespace Go.Proofs.YtacghcoikekfeaaGreat
open Go.ChangeShapes Go.WideShapes Go.ChangeAt Go.RowKit Go.Deep It
set_option maxRecDepth 100000

theorem within_any (lo x hi : Int) (w : World) : Calls Tryz.prog 64 #[.int .i64 lo, .int .i64 x, .int .i64 hi] w fun e w' => e = .returned (.bool (decide (lo ≤ x ∧ x ≤ hi))) ∧ w' = w := by
  by_cases h1 : lo ≤ x
  · by_cases h2 : x ≤ hi
    · rw [decide_eq_true (show lo ≤ x ∧ x ≤ hi from ⟨h1, h2⟩)]
      go_enter Tryz.func64, Tryz.ntmps64
      go_wp2
      go_ret
      exact ⟨rfl, rfl⟩
    · rw [decide_eq_false (show ¬ (lo ≤ x ∧ x ≤ hi) from fun h => h2 h.2)]
      go_enter Tryz.func64, Tryz.ntmps64
      go_wp2
      go_ret
      exact ⟨rfl, rfl⟩
  · rw [decide_eq_false (show ¬ (lo ≤ x ∧ x ≤ hi) from fun h => h1 h.1)]
    go_enter Tryz.func64, Tryz.ntmps64
    go_wp2
    go_ret
    exact ⟨rfl, rfl⟩
theorem within_yes (lo x hi : Int) (w : World) (h : lo ≤ x ∧ x ≤ hi) : Calls Tryz.prog 64 #[.int .i64 lo, .int .i64 x, .int .i64 hi] w fun e w' => e = .returned (.bool true) ∧ w' = w := by
  have := within_any lo x hi w
  rwa [decide_eq_true h] at this
theorem within_no (lo x hi : Int) (w : World) (h : ¬ (lo ≤ x ∧ x ≤ hi)) : Calls Tryz.prog 64 #[.int .i64 lo, .int .i64 x, .int .i64 hi] w fun e w' => e = .returned (.bool false) ∧ w' = w := by
  have := within_any lo x hi w
  rwa [decide_eq_false h] at this

theorem isEmpty_len {β : Type} (l : List β) {n : Nat} (h : n = l.length) : l.isEmpty = decide (n = 0) := by
  subst h
  cases l <;> simp
set_option maxHeartbeats 1000000 in
theorem right_gen (g k l s t nx : Int) (rp ep : Option Addr) (rn rc en ec : Nat) (w : World) (hg : ¬ (1 ≤ g ∧ g ≤ 1099511627776)) :
    Calls Tryz.prog 65 #[.agg #[.int .i64 g, .int .i64 k, .int .i64 l, .int .i64 s, .int .i64 t, .slice rp rn rc, .slice ep en ec, .int .i64 nx]] w fun e w' => e = .returned (.bool false) ∧ Below w.heap.size w w' := by
  have HG : Hid (¬ (1 ≤ g ∧ g ≤ 1099511627776)) := hg
  clear hg
  go_enter Tryz.func65, Tryz.ntmps65
  go_wp2_with fail
  refine (within_no _ _ _ _ HG.out).mono ?_
  rintro e w' ⟨rfl, rfl⟩
  go_wp2
  go_ret
  exact ⟨rfl, (Below.refl _ w).alloc (Nat.le_refl _) _⟩
set_option maxHeartbeats 1000000 in
theorem right_attr (g k l s t nx : Int) (rp ep : Option Addr) (rn rc en ec : Nat) (w : World) (hg : 1 ≤ g ∧ g ≤ 1099511627776) (ha : At.right k l s t = false) :
    Calls Tryz.prog 65 #[.agg #[.int .i64 g, .int .i64 k, .int .i64 l, .int .i64 s, .int .i64 t, .slice rp rn rc, .slice ep en ec, .int .i64 nx]] w fun e w' => e = .returned (.bool false) ∧ Below w.heap.size w w' := by
  have HG : Hid (1 ≤ g ∧ g ≤ 1099511627776) := hg
  have HA : Hid (At.right k l s t = false) := ha
  clear hg ha
  go_enter Tryz.func65, Tryz.ntmps65
  go_wp2_with fail
  refine (within_yes _ _ _ _ HG.out).mono ?_
  rintro e w' ⟨rfl, rfl⟩
  go_wp2_with fail
  refine (acheck_no _ _ _ _ _ HA.out).mono ?_
  rintro e w' ⟨rfl, rfl⟩
  go_wp2
  go_ret
  exact ⟨rfl, ((Below.refl _ w).alloc (Nat.le_refl _) _).alloc (by simp) _⟩
set_option maxHeartbeats 1000000 in
theorem right_dir (g l s t nx : Int) (rp ep : Option Addr) (rn rc en ec : Nat) (w : World) (hg : 1 ≤ g ∧ g ≤ 1099511627776) (ha : At.right 2 l s t = true) :
    Calls Tryz.prog 65 #[.agg #[.int .i64 g, .int .i64 2, .int .i64 l, .int .i64 s, .int .i64 t, .slice rp rn rc, .slice ep en ec, .int .i64 nx]] w fun e w' => e = .returned (.bool (decide (rn = 0))) ∧ Below w.heap.size w w' := by
  have HG : Hid (1 ≤ g ∧ g ≤ 1099511627776) := hg
  have HA : Hid (At.right 2 l s t = true) := ha
  clear hg ha
  by_cases he : en = 0
  · have he' : ((en : Int) == 0) = true := by simp [he]
    by_cases hn : nx = 0
    · have hn' : (nx == 0) = true := by simp [hn]
      clear he hn
      by_cases hr : rn = 0
      · have hr' : ((rn : Int) == 0) = true := by simp [hr]
        rw [decide_eq_true hr]
        clear hr
        go_enter Tryz.func65, Tryz.ntmps65
        go_wp2_with fail
        refine (within_yes _ _ _ _ HG.out).mono ?_
        rintro e w' ⟨rfl, rfl⟩
        go_wp2_with fail
        refine (acheck_yes _ _ _ _ _ HA.out).mono ?_
        rintro e w' ⟨rfl, rfl⟩
        go_wp2
        go_ret
        exact ⟨rfl, ((Below.refl _ w).alloc (Nat.le_refl _) _).alloc (by simp) _⟩
      · have hr' : ((rn : Int) == 0) = false := by simp; omega
        rw [decide_eq_false hr]
        clear hr
        go_enter Tryz.func65, Tryz.ntmps65
        go_wp2_with fail
        refine (within_yes _ _ _ _ HG.out).mono ?_
        rintro e w' ⟨rfl, rfl⟩
        go_wp2_with fail
        refine (acheck_yes _ _ _ _ _ HA.out).mono ?_
        rintro e w' ⟨rfl, rfl⟩
        go_wp2
        go_ret
        exact ⟨rfl, ((Below.refl _ w).alloc (Nat.le_refl _) _).alloc (by simp) _⟩
    · have hn' : (nx == 0) = false := by simp [hn]
      clear he hn
      by_cases hr : rn = 0
      · have hr' : ((rn : Int) == 0) = true := by simp [hr]
        rw [decide_eq_true hr]
        clear hr
        go_enter Tryz.func65, Tryz.ntmps65
        go_wp2_with fail
        refine (within_yes _ _ _ _ HG.out).mono ?_
        rintro e w' ⟨rfl, rfl⟩
        go_wp2_with fail
        refine (acheck_yes _ _ _ _ _ HA.out).mono ?_
        rintro e w' ⟨rfl, rfl⟩
        go_wp2
        go_ret
        exact ⟨rfl, ((Below.refl _ w).alloc (Nat.le_refl _) _).alloc (by simp) _⟩
      · have hr' : ((rn : Int) == 0) = false := by simp; omega
        rw [decide_eq_false hr]
        clear hr
        go_enter Tryz.func65, Tryz.ntmps65
        go_wp2_with fail
        refine (within_yes _ _ _ _ HG.out).mono ?_
        rintro e w' ⟨rfl, rfl⟩
        go_wp2_with fail
        refine (acheck_yes _ _ _ _ _ HA.out).mono ?_
        rintro e w' ⟨rfl, rfl⟩
        go_wp2
        go_ret
        exact ⟨rfl, ((Below.refl _ w).alloc (Nat.le_refl _) _).alloc (by simp) _⟩
  · have he' : ((en : Int) == 0) = false := by simp; omega
    clear he
    by_cases hr : rn = 0
    · have hr' : ((rn : Int) == 0) = true := by simp [hr]
      rw [decide_eq_true hr]
      clear hr
      go_enter Tryz.func65, Tryz.ntmps65
      go_wp2_with fail
      refine (within_yes _ _ _ _ HG.out).mono ?_
      rintro e w' ⟨rfl, rfl⟩
      go_wp2_with fail
      refine (acheck_yes _ _ _ _ _ HA.out).mono ?_
      rintro e w' ⟨rfl, rfl⟩
      go_wp2
      go_ret
      exact ⟨rfl, ((Below.refl _ w).alloc (Nat.le_refl _) _).alloc (by simp) _⟩
    · have hr' : ((rn : Int) == 0) = false := by simp; omega
      rw [decide_eq_false hr]
      clear hr
      go_enter Tryz.func65, Tryz.ntmps65
      go_wp2_with fail
      refine (within_yes _ _ _ _ HG.out).mono ?_
      rintro e w' ⟨rfl, rfl⟩
      go_wp2_with fail
      refine (acheck_yes _ _ _ _ _ HA.out).mono ?_
      rintro e w' ⟨rfl, rfl⟩
      go_wp2
      go_ret
      exact ⟨rfl, ((Below.refl _ w).alloc (Nat.le_refl _) _).alloc (by simp) _⟩
set_option maxHeartbeats 1000000 in
theorem right_free (g l s t nx : Int) (rp ep : Option Addr) (rn rc en ec : Nat) (w : World) (hg : 1 ≤ g ∧ g ≤ 1099511627776) (ha : At.right 0 l s t = true) :
    Calls Tryz.prog 65 #[.agg #[.int .i64 g, .int .i64 0, .int .i64 l, .int .i64 s, .int .i64 t, .slice rp rn rc, .slice ep en ec, .int .i64 nx]] w fun e w' => e = .returned (.bool (decide (en = 0) && decide (nx = 0) && decide (rn = 0))) ∧ Below w.heap.size w w' := by
  have HG : Hid (1 ≤ g ∧ g ≤ 1099511627776) := hg
  have HA : Hid (At.right 0 l s t = true) := ha
  clear hg ha
  by_cases he : en = 0
  · have he' : ((en : Int) == 0) = true := by simp [he]
    by_cases hn : nx = 0
    · have hn' : (nx == 0) = true := by simp [hn]
      rw [decide_eq_true he, decide_eq_true hn]
      clear he hn
      simp only [Bool.and_self, Bool.true_and]
      by_cases hr : rn = 0
      · have hr' : ((rn : Int) == 0) = true := by simp [hr]
        rw [decide_eq_true hr]
        clear hr
        go_enter Tryz.func65, Tryz.ntmps65
        go_wp2_with fail
        refine (within_yes _ _ _ _ HG.out).mono ?_
        rintro e w' ⟨rfl, rfl⟩
        go_wp2_with fail
        refine (acheck_yes _ _ _ _ _ HA.out).mono ?_
        rintro e w' ⟨rfl, rfl⟩
        go_wp2
        go_ret
        exact ⟨rfl, ((Below.refl _ w).alloc (Nat.le_refl _) _).alloc (by simp) _⟩
      · have hr' : ((rn : Int) == 0) = false := by simp; omega
        rw [decide_eq_false hr]
        clear hr
        go_enter Tryz.func65, Tryz.ntmps65
        go_wp2_with fail
        refine (within_yes _ _ _ _ HG.out).mono ?_
        rintro e w' ⟨rfl, rfl⟩
        go_wp2_with fail
        refine (acheck_yes _ _ _ _ _ HA.out).mono ?_
        rintro e w' ⟨rfl, rfl⟩
        go_wp2
        go_ret
        exact ⟨rfl, ((Below.refl _ w).alloc (Nat.le_refl _) _).alloc (by simp) _⟩
    · have hn' : (nx == 0) = false := by simp [hn]
      rw [decide_eq_false hn]
      clear he hn
      simp only [Bool.and_false, Bool.false_and]
      go_enter Tryz.func65, Tryz.ntmps65
      go_wp2_with fail
      refine (within_yes _ _ _ _ HG.out).mono ?_
      rintro e w' ⟨rfl, rfl⟩
      go_wp2_with fail
      refine (acheck_yes _ _ _ _ _ HA.out).mono ?_
      rintro e w' ⟨rfl, rfl⟩
      go_wp2
      go_ret
      exact ⟨rfl, ((Below.refl _ w).alloc (Nat.le_refl _) _).alloc (by simp) _⟩
  · have he' : ((en : Int) == 0) = false := by simp; omega
    rw [decide_eq_false he]
    clear he
    simp only [Bool.false_and]
    go_enter Tryz.func65, Tryz.ntmps65
    go_wp2_with fail
    refine (within_yes _ _ _ _ HG.out).mono ?_
    rintro e w' ⟨rfl, rfl⟩
    go_wp2_with fail
    refine (acheck_yes _ _ _ _ _ HA.out).mono ?_
    rintro e w' ⟨rfl, rfl⟩
    go_wp2
    go_ret
    exact ⟨rfl, ((Below.refl _ w).alloc (Nat.le_refl _) _).alloc (by simp) _⟩
set_option maxHeartbeats 1000000 in
theorem right_fileno (g l s t nx : Int) (rp ep : Option Addr) (rn rc en ec : Nat) (w : World) (hg : 1 ≤ g ∧ g ≤ 1099511627776) (ha : At.right 1 l s t = true) (hb : ¬ (en = 0 ∧ nx = 0)) :
    Calls Tryz.prog 65 #[.agg #[.int .i64 g, .int .i64 1, .int .i64 l, .int .i64 s, .int .i64 t, .slice rp rn rc, .slice ep en ec, .int .i64 nx]] w fun e w' => e = .returned (.bool false) ∧ Below w.heap.size w w' := by
  have HG : Hid (1 ≤ g ∧ g ≤ 1099511627776) := hg
  have HA : Hid (At.right 1 l s t = true) := ha
  clear hg ha
  by_cases he : en = 0
  · have he' : ((en : Int) == 0) = true := by simp [he]
    have hn' : (nx == 0) = false := by
      rw [beq_eq_false_iff_ne]
      intro h
      exact hb ⟨he, h⟩
    clear he hb
    go_enter Tryz.func65, Tryz.ntmps65
    go_wp2_with fail
    refine (within_yes _ _ _ _ HG.out).mono ?_
    rintro e w' ⟨rfl, rfl⟩
    go_wp2_with fail
    refine (acheck_yes _ _ _ _ _ HA.out).mono ?_
    rintro e w' ⟨rfl, rfl⟩
    go_wp2
    go_quiet (fail)
    go_wp2
    go_ret
    exact ⟨rfl, Go.below_drewN (((Below.refl _ w).alloc (Nat.le_refl _) _).alloc (by simp) _) _⟩
  · have he' : ((en : Int) == 0) = false := by simp; omega
    clear he hb
    go_enter Tryz.func65, Tryz.ntmps65
    go_wp2_with fail
    refine (within_yes _ _ _ _ HG.out).mono ?_
    rintro e w' ⟨rfl, rfl⟩
    go_wp2_with fail
    refine (acheck_yes _ _ _ _ _ HA.out).mono ?_
    rintro e w' ⟨rfl, rfl⟩
    go_wp2
    go_quiet (fail)
    go_wp2
    go_ret
    exact ⟨rfl, Go.below_drewN (((Below.refl _ w).alloc (Nat.le_refl _) _).alloc (by simp) _) _⟩
set_option maxHeartbeats 1000000 in
theorem right_filebad (g l s t nx : Int) (rp ep : Option Addr) (rn rc en ec : Nat) (w : World) (hg : 1 ≤ g ∧ g ≤ 1099511627776) (ha : At.right 1 l s t = true) (hb : en = 0 ∧ nx = 0) (rs : List (Int × ByteArray)) (hr : AtW ER w (.slice rp rn rc) rs) (ho : okFields rs) (hq : ¬ Bl.right (-1) rs) :
    Calls Tryz.prog 65 #[.agg #[.int .i64 g, .int .i64 1, .int .i64 l, .int .i64 s, .int .i64 t, .slice rp rn rc, .slice ep en ec, .int .i64 nx]] w fun e w' => e = .returned (.bool false) ∧ Below w.heap.size w w' := by
  have HG : Hid (1 ≤ g ∧ g ≤ 1099511627776) := hg
  have HA : Hid (At.right 1 l s t = true) := ha
  clear hg ha
  have hn' : (nx == 0) = true := by simp [hb.2]
  have he' : ((en : Int) == 0) = true := by simp [hb.1]
  have hw : Below w.heap.size w ((w.alloc (.cells #[.int .i64 g, .int .i64 1, .int .i64 l, .int .i64 s, .int .i64 t, .slice rp rn rc, .slice ep en ec, .int .i64 nx] 65)).alloc (BA 1 l s t)) := ((Below.refl _ w).alloc (Nat.le_refl _) _).alloc (by simp) _
  have HC : Hid (∀ W, ((w.alloc (.cells #[.int .i64 g, .int .i64 1, .int .i64 l, .int .i64 s, .int .i64 t, .slice rp rn rc, .slice ep en ec, .int .i64 nx] 65)).alloc (BA 1 l s t)).grownBy W none → Calls Tryz.prog 98 #[.slice rp rn rc] W fun e w' => e = .returned (.int .i64 (80)) ∧ Below W.heap.size W w') := fun W hW => by
    have := bcheck_any _ rs W ((hr.up hw).up (below_none hW (Nat.le_refl _))).fields ho
    rwa [show Bl.err rs = 80 from by unfold Bl.err; rw [if_neg hq]] at this
  have hc5 : ∀ p : Grw ((w.alloc (.cells #[.int .i64 g, .int .i64 1, .int .i64 l, .int .i64 s, .int .i64 t, .slice rp rn rc, .slice ep en ec, .int .i64 nx] 65)).alloc (BA 1 l s t)), p.out.cell? ⟨w.heap.size, 5, none⟩ = some (.slice rp rn rc) := fun p => p.grown.cell (by simp) (by simp)
  have hc3 : ∀ p : Grw ((w.alloc (.cells #[.int .i64 g, .int .i64 1, .int .i64 l, .int .i64 s, .int .i64 t, .slice rp rn rc, .slice ep en ec, .int .i64 nx] 65)).alloc (BA 1 l s t)), p.out.cell? ⟨w.heap.size, 3, none⟩ = some (.int .i64 s) := fun p => p.grown.cell (by simp) (by simp)
  have hne9 : Nonempty (Grw ((w.alloc (.cells #[.int .i64 g, .int .i64 1, .int .i64 l, .int .i64 s, .int .i64 t, .slice rp rn rc, .slice ep en ec, .int .i64 nx] 65)).alloc (BA 1 l s t))) := grw_some _
  have HW : Hid (Below w.heap.size w ((w.alloc (.cells #[.int .i64 g, .int .i64 1, .int .i64 l, .int .i64 s, .int .i64 t, .slice rp rn rc, .slice ep en ec, .int .i64 nx] 65)).alloc (BA 1 l s t))) := hw
  clear hr ho hb hq hw
  go_enter Tryz.func65, Tryz.ntmps65
  go_wp2_with fail
  refine (within_yes _ _ _ _ HG.out).mono ?_
  rintro e w' ⟨rfl, rfl⟩
  go_wp2_with fail
  refine (acheck_yes _ _ _ _ _ HA.out).mono ?_
  rintro e w' ⟨rfl, rfl⟩
  go_wp2
  refine wp_region_grw (by kernel_rfl) (by kernel_rfl) ?_
  repeat (go_big_quiet_step (first | (go_at_call 98; refine calls_grw (Grw.grown _) (HC.out _ (Grw.grown _)))))
  rintro w9 ⟨p9, rfl⟩
  have HB : Hid (Below w.heap.size w p9.out) := HW.out.trans (p9.below.mono HW.out.size)
  go_wp2
  go_ret
  exact ⟨rfl, HB.out⟩
set_option maxHeartbeats 1000000 in
theorem right_file (g l s t nx : Int) (rp ep : Option Addr) (rn rc en ec : Nat) (w : World) (hg : 1 ≤ g ∧ g ≤ 1099511627776) (ha : At.right 1 l s t = true) (hb : en = 0 ∧ nx = 0) (rs : List (Int × ByteArray)) (hr : AtW ER w (.slice rp rn rc) rs) (ho : okFields rs) (hq : Bl.right (-1) rs) :
    Calls Tryz.prog 65 #[.agg #[.int .i64 g, .int .i64 1, .int .i64 l, .int .i64 s, .int .i64 t, .slice rp rn rc, .slice ep en ec, .int .i64 nx]] w fun e w' => e = .returned (.bool (decide (Bl.endOf rs ≤ s))) ∧ Below w.heap.size w w' := by
  have HG : Hid (1 ≤ g ∧ g ≤ 1099511627776) := hg
  have HA : Hid (At.right 1 l s t = true) := ha
  clear hg ha
  have hn' : (nx == 0) = true := by simp [hb.2]
  have he' : ((en : Int) == 0) = true := by simp [hb.1]
  have hw : Below w.heap.size w ((w.alloc (.cells #[.int .i64 g, .int .i64 1, .int .i64 l, .int .i64 s, .int .i64 t, .slice rp rn rc, .slice ep en ec, .int .i64 nx] 65)).alloc (BA 1 l s t)) := ((Below.refl _ w).alloc (Nat.le_refl _) _).alloc (by simp) _
  have HC : Hid (∀ W, ((w.alloc (.cells #[.int .i64 g, .int .i64 1, .int .i64 l, .int .i64 s, .int .i64 t, .slice rp rn rc, .slice ep en ec, .int .i64 nx] 65)).alloc (BA 1 l s t)).grownBy W none → Calls Tryz.prog 98 #[.slice rp rn rc] W fun e w' => e = .returned (.int .i64 (0)) ∧ Below W.heap.size W w') := fun W hW => by
    have := bcheck_any _ rs W ((hr.up hw).up (below_none hW (Nat.le_refl _))).fields ho
    rwa [show Bl.err rs = 0 from by unfold Bl.err; rw [if_pos hq]] at this
  have HE : Hid (∀ W, ((w.alloc (.cells #[.int .i64 g, .int .i64 1, .int .i64 l, .int .i64 s, .int .i64 t, .slice rp rn rc, .slice ep en ec, .int .i64 nx] 65)).alloc (BA 1 l s t)).grownBy W none → Calls Tryz.prog 99 #[.slice rp rn rc] W fun e w' => e = .returned (.int .i64 (Bl.endOf rs)) ∧ Below W.heap.size W w') := fun W hW => End_any _ rs W ((hr.up hw).up (below_none hW (Nat.le_refl _))).fields ho
  have hc5 : ∀ p : Grw ((w.alloc (.cells #[.int .i64 g, .int .i64 1, .int .i64 l, .int .i64 s, .int .i64 t, .slice rp rn rc, .slice ep en ec, .int .i64 nx] 65)).alloc (BA 1 l s t)), p.out.cell? ⟨w.heap.size, 5, none⟩ = some (.slice rp rn rc) := fun p => p.grown.cell (by simp) (by simp)
  have hc3 : ∀ p : Grw ((w.alloc (.cells #[.int .i64 g, .int .i64 1, .int .i64 l, .int .i64 s, .int .i64 t, .slice rp rn rc, .slice ep en ec, .int .i64 nx] 65)).alloc (BA 1 l s t)), p.out.cell? ⟨w.heap.size, 3, none⟩ = some (.int .i64 s) := fun p => p.grown.cell (by simp) (by simp)
  have hne9 : Nonempty (Grw ((w.alloc (.cells #[.int .i64 g, .int .i64 1, .int .i64 l, .int .i64 s, .int .i64 t, .slice rp rn rc, .slice ep en ec, .int .i64 nx] 65)).alloc (BA 1 l s t))) := grw_some _
  have HW : Hid (Below w.heap.size w ((w.alloc (.cells #[.int .i64 g, .int .i64 1, .int .i64 l, .int .i64 s, .int .i64 t, .slice rp rn rc, .slice ep en ec, .int .i64 nx] 65)).alloc (BA 1 l s t))) := hw
  clear hr ho hb hq hw
  obtain ⟨en9, hen⟩ : ∃ en9, Bl.endOf rs = en9 := ⟨_, rfl⟩
  rw [hen] at HE ⊢
  clear hen
  go_enter Tryz.func65, Tryz.ntmps65
  go_wp2_with fail
  refine (within_yes _ _ _ _ HG.out).mono ?_
  rintro e w' ⟨rfl, rfl⟩
  go_wp2_with fail
  refine (acheck_yes _ _ _ _ _ HA.out).mono ?_
  rintro e w' ⟨rfl, rfl⟩
  go_wp2
  refine wp_region_grw (by kernel_rfl) (by kernel_rfl) ?_
  repeat (go_big_quiet_step (first | (go_at_call 98; refine calls_grw (Grw.grown _) (HC.out _ (Grw.grown _))) | (go_at_call 99; refine calls_grw (Grw.grown _) (HE.out _ (Grw.grown _)))))
  rintro w9 ⟨p9, rfl⟩
  have HB : Hid (Below w.heap.size w p9.out) := HW.out.trans (p9.below.mono HW.out.size)
  go_wp2
  go_ret
  exact ⟨rfl, HB.out⟩

theorem right_any {S : Nat → Prop} (x : Rw) (w : World) (h : Good S w x) : Calls Tryz.prog 65 #[VI x] w fun e w' => e = .returned (.bool (one x.i)) ∧ Below w.heap.size w w' := by
  obtain ⟨hrn, hen⟩ := h.len
  obtain ⟨hr, _, ho, _⟩ := h
  obtain ⟨⟨g, k, l, s, t, rs, es, nx⟩, rp, rn, rc, ep, en, ec⟩ := x
  simp only at hrn hen hr ho ⊢
  by_cases hg : 1 ≤ g ∧ g ≤ 1099511627776
  · cases ha : At.right k l s t with
    | false =>
      rw [one_attr ha]
      exact right_attr g k l s t nx rp ep rn rc en ec w hg ha
    | true =>
      rcases kind_bd ha with rfl | rfl | rfl
      · rw [one_free hg ha, isEmpty_len es hen, isEmpty_len rs hrn]
        exact right_free g l s t nx rp ep rn rc en ec w hg ha
      · rw [one_file hg ha, isEmpty_len es hen]
        by_cases hb : en = 0 ∧ nx = 0
        · rw [decide_eq_true hb.1, decide_eq_true hb.2]
          by_cases hq : Bl.right (-1) rs
          · rw [decide_eq_true hq]
            exact right_file g l s t nx rp ep rn rc en ec w hg ha hb rs hr.wide ho hq
          · rw [decide_eq_false hq]
            exact right_filebad g l s t nx rp ep rn rc en ec w hg ha hb rs hr.wide ho hq
        · rw [show (decide (en = 0) && decide (nx = 0)) = false from by simpa using hb]
          exact right_fileno g l s t nx rp ep rn rc en ec w hg ha hb
      · rw [one_dir hg ha, isEmpty_len rs hrn]
        exact right_dir g l s t nx rp ep rn rc en ec w hg ha
  · rw [one_gen hg]
    exact right_gen g k l s t nx rp ep rn rc en ec w hg
end Go.Proofs.YtacghcoikekfeaaGreat
