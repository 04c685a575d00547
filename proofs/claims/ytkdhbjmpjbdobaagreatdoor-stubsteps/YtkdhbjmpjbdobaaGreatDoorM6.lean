/-
  The texts WChk, WAdd, as one.
-/
import Derived.RangeFuncBox
import Derived.OneCell
import Derived.Test.YtkdhbjmpjbdobaaGreatDoorM5
/- WChk -/
namespace Go.Proofs.YtkdhbjmpjbdobaaGreatDoor
open Go.ChangeShapes Go.WideShapes Go.ChangeAt Go.RowKit Go.Deep Me
set_option maxRecDepth 100000
theorem at_oneM {w : World} {A : Nat} {x : It} (h : w.heap[A]? = some (BI x)) : AtW EM w (.slice (some ⟨A, 0, none⟩) 1 1) [x] := by
  refine .inr ⟨A, 0, 1, rfl, trivial, (Array.getElem?_eq_some_iff.1 h).1, by simp, by simp, by unfold maxLen; omega, fun j u hj => ?_⟩
  obtain ⟨c0, c1, c2, c3⟩ := it_of h
  match j, hj with
  | 0, hj => simp [Enc.flat, EM] at hj; subst hj; exact c0
  | 1, hj => simp [Enc.flat, EM] at hj; subst hj; exact c1
  | 2, hj => simp [Enc.flat, EM] at hj; subst hj; exact c2
  | 3, hj => simp [Enc.flat, EM] at hj; subst hj; exact c3
theorem obase_nil (w : World) : Calls Tryz.prog 167 #[.pointer none] w fun e w' => e = .returned (.int .i64 0) ∧ w' = w := by
  go_enter Tryz.func167, Tryz.ntmps167
  go_wp2
  go_ret
  exact ⟨rfl, rfl⟩
theorem olast_nil (w : World) : Calls Tryz.prog 153 #[.pointer none] w fun e w' => e = .returned (.int .i64 0) ∧ w' = w := by
  go_enter Tryz.func153, Tryz.ntmps153
  go_wp2
  go_ret
  exact ⟨rfl, rfl⟩
theorem oat_nil (w : World) : Calls Tryz.prog 163 #[.pointer none, .int .i64 0] w fun e w' => e = .returned (.agg #[.int .i64 0, .int .i64 0, .int .i64 0, .string ⟨#[]⟩]) ∧ Below w.heap.size w w' := by
  have HB : Hid (Below w.heap.size w (w.alloc (.cells #[.int .i64 0, .int .i64 0, .int .i64 0, .string ⟨#[]⟩] 137))) := below_alloc _ _
  go_enter Tryz.func163, Tryz.ntmps163
  go_wp2_with fail
  refine (obase_nil _).mono ?_
  rintro e w' ⟨rfl, rfl⟩
  go_wp2
  (try simp only [Exit.inBlock, Exit.then])
  refine bodyPost_ret (v := .agg #[.int .i64 0, .int .i64 0, .int .i64 0, .string ⟨#[]⟩]) (by simp [results, Tryz.results163, go_sem]) rfl ⟨rfl, HB.out⟩
theorem fld0 (w : World) : (Instr.field 137 (.agg #[.int .i64 0, .int .i64 0, .int .i64 0, .string ⟨#[]⟩]) 0).run Tryz.prog w = .ok (.int .i64 0) w := by kernel_rfl
theorem ofall_one (x : It) (v : Value) (w : World) (hv : AtW EM w v [x]) (hx : 0 ≤ x.v) : Calls Tryz.prog 162 #[.int .i64 0, v] w fun e w' => e = .returned (.bool false) ∧ Below w.heap.size w w' := by
  obtain ⟨ao, cap, rfl, -, hc⟩ := hv.open
  obtain ⟨b, off, rfl, -, hB, hc⟩ := hc 0 x rfl
  have c0 : w.cell? ⟨b, off, none⟩ = some (.int .i64 x.v) := by simpa [EM] using hc 0 _ rfl
  have c1 : w.cell? ⟨b, off + 1, none⟩ = some (.int .i64 x.c) := by simpa [EM] using hc 1 _ rfl
  have c2 : w.cell? ⟨b, off + 2, none⟩ = some (.int .i64 x.r) := by simpa [EM] using hc 2 _ rfl
  have c3 : w.cell? ⟨b, off + 3, none⟩ = some (.string x.b) := by simpa [EM] using hc 3 _ rfl
  have hx' : ¬ x.v < 0 := by omega
  have HB : Hid (Below w.heap.size w (w.alloc (BI x))) := below_alloc _ _
  clear hc hv
  simp only [List.length_cons, List.length_nil]
  go_enter Tryz.func162, Tryz.ntmps162
  go_wp2
  refine wp_loop_rounds 2 ?_
  rw [rounds_succ]
  go_wp2
  rw [rounds_succ]
  go_wp2
  go_ret
  exact ⟨rfl, HB.out⟩
theorem orefuse_nil (x : It) (v : Value) (w : World) (hv : AtW EM w v [x]) : Calls Tryz.prog 152 #[.pointer none, .int .i64 0, v] w fun e w' => e = .returned (.int .i64 (if okIt x = true then 5 else 4)) ∧ Below w.heap.size w w' := by
  have HV : Hid (AtW EM w v [x]) := hv
  have HC : Hid (([x] : List It).any (fun x => !okIt x) = !okIt x) := by show _ = _; simp
  clear hv
  cases hok : okIt x with
  | false =>
    rw [if_neg (by decide)]
    go_enter Tryz.func152, Tryz.ntmps152
    go_wp2_with fail
    refine (conWr _ _ (fun x => !okIt x) _ HV.out (fun y _ V _ => wrong_any y V)).mono ?_
    rintro e w1 ⟨rfl, hb1⟩
    rw [HC.out, hok]
    go_wp2
    go_ret
    exact ⟨rfl, hb1⟩
  | true =>
    rw [if_pos rfl]
    have HX : Hid (0 ≤ x.v) := by
      have := hok
      simp only [okIt, decide_eq_true_eq] at this
      exact this.1.1
    go_enter Tryz.func152, Tryz.ntmps152
    go_wp2_with fail
    refine (conWr _ _ (fun x => !okIt x) _ HV.out (fun y _ V _ => wrong_any y V)).mono ?_
    rintro e w1 ⟨rfl, hb1⟩
    rw [HC.out, hok]
    have HB1 : Hid (Below w.heap.size w w1) := hb1
    clear hb1
    go_wp2_with fail
    refine (oat_nil _).mono ?_
    rintro e w2 ⟨rfl, hb2⟩
    have HB2 : Hid (Below w.heap.size w w2) := bup HB1.out hb2
    have hfd := fld0 w2
    clear hb2
    go_wp2_with fail
    refine (ofall_one x _ _ (HV.out.up HB2.out) HX.out).mono ?_
    rintro e w3 ⟨rfl, hb3⟩
    have HB3 : Hid (Below w.heap.size w w3) := bup HB2.out hb3
    clear hb3
    go_wp2
    go_ret
    exact ⟨rfl, HB3.out⟩
set_option maxRecDepth 100000 in
set_option maxHeartbeats 2000000 in
theorem oadd_nil (x : It) (w : World) : Calls Tryz.prog 129 #[.pointer none, VI x] w fun e w' => e = .returned (.tuple #[.int .i64 0, .int .i64 (if okIt x = true then 5 else 4)]) ∧ Below w.heap.size w w' := by
  obtain ⟨er, her⟩ : ∃ er : Int, (if okIt x = true then 5 else 4) = er := ⟨_, rfl⟩
  have hne : (er != 0) = true := by rw [← her]; split <;> decide
  have HR : Hid (∀ v V, AtW EM V v [x] → Calls Tryz.prog 152 #[.pointer none, .int .i64 0, v] V fun e w' => e = .returned (.int .i64 er) ∧ Below V.heap.size V w') := fun v V hV => by have := orefuse_nil x v V hV; rwa [her] at this
  obtain ⟨W, hW⟩ : ∃ W, w.alloc (BI x) = W := ⟨_, rfl⟩
  have HW : Hid (w.alloc (BI x) = W) := hW
  have HBW : Hid (Below w.heap.size w W) := by rw [← hW]; exact below_alloc _ _
  obtain ⟨A, hA⟩ : ∃ A, w.heap.size = A := ⟨_, rfl⟩
  have HA : Hid (w.heap.size = A) := hA
  have HX : Hid (W.heap[A]? = some (BI x)) := by rw [← hW, ← hA]; exact heap_alloc_new _ _
  have HS : Hid (∀ V, Below W.heap.size W V → V.cell? ⟨A, 0, none⟩ = some (.int .i64 x.v) ∧ V.cell? ⟨A, 1, none⟩ = some (.int .i64 x.c) ∧ V.cell? ⟨A, 2, none⟩ = some (.int .i64 x.r) ∧ V.cell? ⟨A, 3, none⟩ = some (.string x.b)) := fun V hV => it_of (blk HX.out hV)
  rw [her]
  clear her hW hA
  go_enter Tryz.func129, Tryz.ntmps129
  go_wp2_with fail
  rw [HW.out, HA.out]
  go_region_held3 (fun V => V.cell? ⟨A, 0, none⟩ = some (.int .i64 x.v) ∧ V.cell? ⟨A, 1, none⟩ = some (.int .i64 x.c) ∧ V.cell? ⟨A, 2, none⟩ = some (.int .i64 x.r) ∧ V.cell? ⟨A, 3, none⟩ = some (.string x.b)) (first | exact HS.out _ (by (repeat (first | with_reducible assumption | with_reducible exact Below.refl _ _ | with_reducible refine bel_drew ?_ | with_reducible refine Below.alloc ?_ (by first | exact Nat.le_refl _ | assumption) _)))) (first
    | (go_at_call 153; refine (olast_nil _).mono ?_; rintro e w3 ⟨rfl, rfl⟩)
    | (go_at_call 152; refine (HR.out _ _ (at_oneM (w := (W.alloc (BI x)).drew) (heap_alloc_new W (BI x)))).mono ?_; rintro e w3 ⟨rfl, hb3⟩; have hb3' : Below W.heap.size W w3 := bup (w1 := (W.alloc (BI x)).drew) (bel_drew (below_alloc _ _)) hb3; clear hb3))
  all_goals
    have HB3 : Hid (Below w.heap.size w w3) := bup HBW.out hb3'
    clear hb3'
    go_wp2
    go_ret2
    exact ⟨rfl, HB3.out⟩
theorem wrongItem_any (x : It) (w : World) : Calls Tryz.prog 83 #[VI x] w fun e w' => e = .returned (.bool (!okIt x)) ∧ Below w.heap.size w w' := by
  have HB : Hid (Below w.heap.size w (w.alloc (BI x))) := below_alloc _ _
  obtain ⟨er, her⟩ : ∃ er : Int, (if okIt x = true then 5 else 4) = er := ⟨_, rfl⟩
  have HE : Hid ((if okIt x = true then (5 : Int) else 4) = er) := her
  have hq : (er == 4) = !okIt x := by rw [← her]; cases okIt x <;> decide
  obtain ⟨b, hb⟩ : ∃ b, (!okIt x) = b := ⟨_, rfl⟩
  rw [hb] at hq ⊢
  clear her hb
  go_enter Tryz.func83, Tryz.ntmps83
  go_wp2_with fail
  refine (oadd_nil _ _).mono ?_
  rintro e w1 ⟨rfl, hb1⟩
  rw [HE.out]
  have HB1 : Hid (Below w.heap.size w w1) := bup HB.out hb1
  clear hb1
  go_wp2
  go_ret
  exact ⟨rfl, HB1.out⟩
set_option maxRecDepth 100000 in
set_option maxHeartbeats 2000000 in
theorem idxWI (v : Value) (l : List It) (p : It → Bool) (w : World) (hv : AtW EM w v l)
    (hp : ∀ x ∈ l, ∀ V, Below w.heap.size w V → Calls Tryz.prog 83 #[VI x] V fun e w' => e = .returned (.bool (p x)) ∧ Below V.heap.size V w') :
    Calls Tryz.prog 128 #[v, .func (Fn.func 83) #[] #[]] w fun e w' => e = .returned (.int .i64 (atI p l)) ∧ Below w.heap.size w w' := by
  obtain ⟨ao, cap, rfl, hm, hx⟩ := hv.open
  clear hv
  unfold maxLen at hm
  obtain ⟨n, hn⟩ : ∃ n, l.length = n := ⟨_, rfl⟩
  rw [hn] at hm ⊢
  have HN : Hid (l.length = n) := hn
  have HX : Hid (∀ i x, l[i]? = some x → ∃ b off, ao = some ⟨b, off, none⟩ ∧ True ∧ b < w.heap.size ∧ ∀ k u, (EM.cells x)[k]? = some u → w.cell? ⟨b, off + (i * EM.sz + k), none⟩ = some u) := hx
  have HPR : Hid (∀ x ∈ l, ∀ V, Below w.heap.size w V → Calls Tryz.prog 83 #[VI x] V fun e w' => e = .returned (.bool (p x)) ∧ Below V.heap.size V w') := hp
  clear hn hx hp
  go_enter Tryz.func128, Tryz.ntmps128
  go_wp2
  go_loopw [8] (fun i wr => ∃ k : Nat, k ≤ n ∧ i = .int .i64 k ∧ Hid (∀ j y, j < k → l[j]? = some y → p y = false) ∧ Hid (Below w.heap.size w wr)) (fun i _ => n - (intOf i).toNat)
  case atStart => exact ⟨0, Nat.zero_le _, rfl, fun j y hj => by omega, Below.refl _ _⟩
  case round =>
    obtain ⟨k, hk, rfl, HP, HB⟩ := hrel
    by_cases hlt : k < n
    · obtain ⟨x, hxk⟩ : ∃ x, l[k]? = some x := ⟨_, List.getElem?_eq_getElem (by rw [HN.out]; exact hlt)⟩
      have HXK : Hid (l[k]? = some x) := hxk
      obtain ⟨b2, off, rfl, -, hB, hcx⟩ := HX.out k x hxk
      have a := fun j u hj => (HB.out.cell (p := ⟨b2, off + (k * EM.sz + j), none⟩) hB).trans (hcx j u hj)
      have c0 : wr.cell? ⟨b2, off + k * 4, none⟩ = some (.int .i64 x.v) := by have := a 0 _ rfl; exact this
      have c1 : wr.cell? ⟨b2, off + k * 4 + 1, none⟩ = some (.int .i64 x.c) := by have := a 1 _ rfl; exact this
      have c2 : wr.cell? ⟨b2, off + k * 4 + 2, none⟩ = some (.int .i64 x.r) := by have := a 2 _ rfl; exact this
      have c3 : wr.cell? ⟨b2, off + k * 4 + 3, none⟩ = some (.string x.b) := by have := a 3 _ rfl; exact this
      have hsz := HB.out.size
      have HC := HPR.out x (List.mem_of_getElem? hxk)
      clear a hcx hxk
      have hlt' : (k : Int) < (n : Int) := by omega
      obtain ⟨r, hr⟩ : ∃ r, p x = r := ⟨_, rfl⟩
      go_wp2_with fail
      refine (HC _ HB.out).mono ?_
      rintro e w1 ⟨rfl, hb1⟩
      rw [hr]
      have HB1 : Hid (Below w.heap.size w w1) := HB.out.trans (hb1.mono hsz)
      clear hb1
      cases r with
      | true =>
        have HA : Hid (atI p l = k) := atI_hit HXK.out hr HP.out
        clear hr HC
        go_wp2
        go_ret
        rw [HA.out]
        exact ⟨rfl, HB1.out⟩
      | false =>
        have HP2 : Hid (∀ j y, j < k + 1 → l[j]? = some y → p y = false) := fun j y hj hy => by
          by_cases e : j = k
          · subst e
            rw [HXK.out] at hy
            cases hy
            exact hr
          · exact HP.out j y (by omega) hy
        clear hr HC
        go_wp2
        go_roundw
        case rel => exact ⟨k + 1, by omega, by go_num, HP2, HB1⟩
        case measure => simp [intOf]; omega
    · obtain rfl : k = n := by omega
      have HA : Hid (atI p l = -1) := atI_miss fun j y hj => HP.out j y (by rw [← HN.out]; exact hj)
      go_wp2
      go_ret
      rw [HA.out]
      exact ⟨rfl, HB.out⟩
theorem conWI (v : Value) (l : List It) (p : It → Bool) (w : World) (hv : AtW EM w v l)
    (hp : ∀ x ∈ l, ∀ V, Below w.heap.size w V → Calls Tryz.prog 83 #[VI x] V fun e w' => e = .returned (.bool (p x)) ∧ Below V.heap.size V w') :
    Calls Tryz.prog 82 #[v, .func (Fn.func 83) #[] #[]] w fun e w' => e = .returned (.bool (l.any p)) ∧ Below w.heap.size w w' := by
  have HI : Hid (Calls Tryz.prog 128 #[v, .func (Fn.func 83) #[] #[]] w fun e w' => e = .returned (.int .i64 (atI p l)) ∧ Below w.heap.size w w') := idxWI v l p w hv hp
  obtain ⟨t, ht⟩ : ∃ t, atI p l = t := ⟨_, rfl⟩
  have HT : Hid (atI p l = t) := ht
  obtain ⟨b, hb⟩ : ∃ b, l.any p = b := ⟨_, rfl⟩
  have hd : decide (0 ≤ t) = b := by rw [← ht, ← hb]; exact atI_any p l
  rw [hb]
  clear hp hv ht hb
  go_enter Tryz.func82, Tryz.ntmps82
  go_wp2_with fail
  refine HI.out.mono ?_
  rintro e w1 ⟨rfl, hb1⟩
  rw [HT.out]
  go_wp2
  go_ret
  exact ⟨rfl, hb1⟩
theorem any_not {α : Type} (p : α → Bool) (l : List α) : l.any (fun x => !p x) = !l.all p := by
  induction l with
  | nil => rfl
  | cons y l ih => simp [ih]
theorem rLives_any (v : Value) (l : List Int) (w : World) (hv : AtW EI w v l) : Calls Tryz.prog 81 #[v] w fun e w' => e = .returned (.bool (livB l)) ∧ Below w.heap.size w w' := by
  have HV : Hid (AtW EI w v l) := hv
  obtain ⟨ao, cap, rfl, hm, -⟩ := hv.open
  unfold maxLen at hm
  obtain ⟨n, hn⟩ : ∃ n, l.length = n := ⟨_, rfl⟩
  have HL : Hid (livB l = (decide (n = 0) || (decide (n ≤ 7) && (decide (n % 2 = 1) && l.all bigB)))) := by show _ = _; unfold livB; rw [hn]
  have HC : Hid (l.any (fun x => !bigB x) = !l.all bigB) := any_not _ _
  obtain ⟨al, hal⟩ : ∃ al, l.all bigB = al := ⟨_, rfl⟩
  rw [hal] at HL HC
  rw [HL.out]
  rw [hn] at hm HV ⊢
  clear hn hv hal
  by_cases h0 : n = 0
  · have h0' : ((n : Int) == 0) = true := by simp [h0]
    rw [decide_eq_true h0]
    clear h0
    go_enter Tryz.func81, Tryz.ntmps81
    go_wp2
    go_ret
    exact ⟨rfl, Below.refl _ _⟩
  · have h0' : ((n : Int) == 0) = false := by simp; omega
    rw [decide_eq_false h0, Bool.false_or]
    by_cases h7 : n ≤ 7
    · have h7' : decide ((n : Int) ≤ 7) = true := by simp; omega
      rw [decide_eq_true h7, Bool.true_and]
      by_cases h2 : n % 2 = 1
      · have h2' : ((n : Int) % 2 == 1) = true := by simp; omega
        rw [decide_eq_true h2, Bool.true_and]
        clear h0 h2
        go_enter Tryz.func81, Tryz.ntmps81
        go_wp2_with fail
        refine (conBig _ _ (fun x => !bigB x) _ HV.out (fun y _ V _ => tooBig_any y V)).mono ?_
        rintro e w1 ⟨rfl, hb1⟩
        rw [HC.out]
        go_wp2
        go_ret
        exact ⟨by first | rfl | simp, hb1⟩
      · have h2' : ((n : Int) % 2 == 1) = false := by simp; omega
        rw [decide_eq_false h2, Bool.false_and]
        clear h0 h2
        go_enter Tryz.func81, Tryz.ntmps81
        go_wp2
        go_ret
        exact ⟨rfl, Below.refl _ _⟩
    · have h7' : decide ((n : Int) ≤ 7) = false := by simp; omega
      rw [decide_eq_false h7, Bool.false_and]
      clear h0 h7
      go_enter Tryz.func81, Tryz.ntmps81
      go_wp2
      go_ret
      exact ⟨rfl, Below.refl _ _⟩
set_option maxRecDepth 100000 in
set_option maxHeartbeats 1000000 in
theorem sCheck_any (o s m : Int) (w : World) : Calls Tryz.prog 130 #[VMan o s m] w fun e w' => e = .returned (.int .i64 (if manR o s m = true then 0 else 4)) ∧ Below w.heap.size w w' := by
  have HB : Hid (Below w.heap.size w (w.alloc (.cells #[.int .i64 o, .int .i64 s, .int .i64 m] 69))) := below_alloc _ _
  have HE : manR o s m = (decide (0 ≤ o ∧ o ≤ 1099511627776) && (decide (1 ≤ s ∧ s ≤ 65535) && decide (0 ≤ m ∧ m ≤ 4294967295))) := by
    unfold manR
    rw [Bool.eq_iff_iff]
    simp
  rw [HE]
  clear HE
  obtain ⟨t1, h1⟩ : ∃ t, decide (0 ≤ o ∧ o ≤ 1099511627776) = t := ⟨_, rfl⟩
  obtain ⟨t2, h2⟩ : ∃ t, decide (1 ≤ s ∧ s ≤ 65535) = t := ⟨_, rfl⟩
  obtain ⟨t3, h3⟩ : ∃ t, decide (0 ≤ m ∧ m ≤ 4294967295) = t := ⟨_, rfl⟩
  have H1 : Hid (decide (0 ≤ o ∧ o ≤ 1099511627776) = t1) := h1
  have H2 : Hid (decide (1 ≤ s ∧ s ≤ 65535) = t2) := h2
  have H3 : Hid (decide (0 ≤ m ∧ m ≤ 4294967295) = t3) := h3
  rw [h1, h2, h3]
  clear h1 h2 h3
  cases t1 with
  | false =>
    go_enter Tryz.func130, Tryz.ntmps130
    go_wp2_with fail
    refine (swi _ _ _ _).mono ?_
    rintro e w' ⟨rfl, rfl⟩
    rw [H1.out]
    go_wp2
    go_ret
    exact ⟨rfl, HB.out⟩
  | true =>
    cases t2 with
    | false =>
      go_enter Tryz.func130, Tryz.ntmps130
      go_wp2_with fail
      refine (swi _ _ _ _).mono ?_
      rintro e w' ⟨rfl, rfl⟩
      rw [H1.out]
      go_wp2_with fail
      refine (swi _ _ _ _).mono ?_
      rintro e w' ⟨rfl, rfl⟩
      rw [H2.out]
      go_wp2
      go_ret
      exact ⟨rfl, HB.out⟩
    | true =>
      cases t3 with
      | false =>
        go_enter Tryz.func130, Tryz.ntmps130
        go_wp2_with fail
        refine (swi _ _ _ _).mono ?_
        rintro e w' ⟨rfl, rfl⟩
        rw [H1.out]
        go_wp2_with fail
        refine (swi _ _ _ _).mono ?_
        rintro e w' ⟨rfl, rfl⟩
        rw [H2.out]
        go_wp2_with fail
        refine (swi _ _ _ _).mono ?_
        rintro e w' ⟨rfl, rfl⟩
        rw [H3.out]
        go_wp2
        go_ret
        exact ⟨rfl, HB.out⟩
      | true =>
        go_enter Tryz.func130, Tryz.ntmps130
        go_wp2_with fail
        refine (swi _ _ _ _).mono ?_
        rintro e w' ⟨rfl, rfl⟩
        rw [H1.out]
        go_wp2_with fail
        refine (swi _ _ _ _).mono ?_
        rintro e w' ⟨rfl, rfl⟩
        rw [H2.out]
        go_wp2_with fail
        refine (swi _ _ _ _).mono ?_
        rintro e w' ⟨rfl, rfl⟩
        rw [H3.out]
        go_wp2
        go_ret
        exact ⟨rfl, HB.out⟩
theorem eql_man (w : World) (o s m : Int) : (binOp .eql 69 (VMan o s m) (VMan 0 0 0)).run Tryz.prog w = .ok (.bool (manZ o s m)) w := by
  unfold manZ
  cases h0 : (o == 0) <;> cases h1 : (s == 0) <;> cases h2 : (m == 0) <;> go_simp <;> simp [h0, h1, h2]
theorem rMan_any (o s m : Int) (w : World) : Calls Tryz.prog 84 #[VMan o s m] w fun e w' => e = .returned (.bool (manB o s m)) ∧ Below w.heap.size w w' := by
  have HB : Hid (Below w.heap.size w (w.alloc (.cells #[.int .i64 o, .int .i64 s, .int .i64 m] 69))) := below_alloc _ _
  unfold manB manZ
  by_cases h0 : o = 0
  · by_cases h1 : s = 0
    · by_cases h2 : m = 0
      · subst h0 h1 h2
        go_enter Tryz.func84, Tryz.ntmps84
        go_wp2
        go_ret
        exact ⟨rfl, HB.out⟩
      · have e2 : (m == 0) = false := by simp [h2]
        subst h0 h1
        rw [e2, Bool.and_false, Bool.and_false, Bool.false_or]
        clear h2
        obtain ⟨er, her⟩ : ∃ er : Int, (if manR 0 0 m = true then 0 else 4) = er := ⟨_, rfl⟩
        have HE : Hid ((if manR 0 0 m = true then (0 : Int) else 4) = er) := her
        have he : (er == 0) = manR 0 0 m := by rw [← her]; cases manR 0 0 m <;> decide
        obtain ⟨b, hb⟩ : ∃ b, manR 0 0 m = b := ⟨_, rfl⟩
        rw [hb] at he ⊢
        clear her hb
        go_enter Tryz.func84, Tryz.ntmps84
        go_wp2_with fail
        refine (sCheck_any _ _ _ _).mono ?_
        rintro e w1 ⟨rfl, hb1⟩
        rw [HE.out]
        have HB1 : Hid (Below w.heap.size w w1) := bup HB.out hb1
        clear hb1
        go_wp2
        go_ret
        exact ⟨by first | rfl | simp, HB1.out⟩
    · have e1 : (s == 0) = false := by simp [h1]
      subst h0
      rw [e1, Bool.false_and, Bool.and_false, Bool.false_or]
      clear h1
      obtain ⟨er, her⟩ : ∃ er : Int, (if manR 0 s m = true then 0 else 4) = er := ⟨_, rfl⟩
      have HE : Hid ((if manR 0 s m = true then (0 : Int) else 4) = er) := her
      have he : (er == 0) = manR 0 s m := by rw [← her]; cases manR 0 s m <;> decide
      obtain ⟨b, hb⟩ : ∃ b, manR 0 s m = b := ⟨_, rfl⟩
      rw [hb] at he ⊢
      clear her hb
      go_enter Tryz.func84, Tryz.ntmps84
      go_wp2_with fail
      refine (sCheck_any _ _ _ _).mono ?_
      rintro e w1 ⟨rfl, hb1⟩
      rw [HE.out]
      have HB1 : Hid (Below w.heap.size w w1) := bup HB.out hb1
      clear hb1
      go_wp2
      go_ret
      exact ⟨by first | rfl | simp, HB1.out⟩
  · have e0 : (o == 0) = false := by simp [h0]
    rw [e0, Bool.false_and, Bool.false_or]
    clear h0
    obtain ⟨er, her⟩ : ∃ er : Int, (if manR o s m = true then 0 else 4) = er := ⟨_, rfl⟩
    have HE : Hid ((if manR o s m = true then (0 : Int) else 4) = er) := her
    have he : (er == 0) = manR o s m := by rw [← her]; cases manR o s m <;> decide
    obtain ⟨b, hb⟩ : ∃ b, manR o s m = b := ⟨_, rfl⟩
    rw [hb] at he ⊢
    clear her hb
    go_enter Tryz.func84, Tryz.ntmps84
    go_wp2_with fail
    refine (sCheck_any _ _ _ _).mono ?_
    rintro e w1 ⟨rfl, hb1⟩
    rw [HE.out]
    have HB1 : Hid (Below w.heap.size w w1) := bup HB.out hb1
    clear hb1
    go_wp2
    go_ret
    exact ⟨by first | rfl | simp, HB1.out⟩
abbrev V7 (m : Mm) : Value := .agg #[.int .i64 m.v, .int .i64 m.n, .int .i64 m.o, .int .i64 m.c, .int .i64 m.b, .int .i64 m.l, .int .i64 m.cl]
abbrev B7 (m : Mm) : Obj := .cells #[.int .i64 m.v, .int .i64 m.n, .int .i64 m.o, .int .i64 m.c, .int .i64 m.b, .int .i64 m.l, .int .i64 m.cl] 92
theorem bigs_any (m : Mm) (u z : Value) (hu : ∃ p n c, u = .slice p n c) (hz : ∃ p n c, z = .slice p n c) (w : World) : Calls Tryz.prog 77 #[VM m u z] w fun e w' => e = .returned (V7 m) ∧ Below w.heap.size w w' := by
  obtain ⟨p1, n1, c1, rfl⟩ := hu
  obtain ⟨p2, n2, c2, rfl⟩ := hz
  have HB : Hid (Below w.heap.size w ((w.alloc (BM m (.slice p1 n1 c1) (.slice p2 n2 c2))).alloc (B7 m))) := bup (below_alloc _ _) (below_alloc _ _)
  go_enter Tryz.func77, Tryz.ntmps77
  go_wp2
  (try simp only [Exit.inBlock, Exit.then])
  refine bodyPost_ret (v := V7 m) (by simp [results, Tryz.results77, go_sem]) rfl ⟨rfl, HB.out⟩
theorem at_seven {w : World} {A : Nat} {m : Mm} (h : w.heap[A]? = some (B7 m)) : AtW EI w (.slice (some ⟨A, 0, none⟩) 7 7) (bigs m) := by
  refine .inr ⟨A, 0, 7, rfl, trivial, (Array.getElem?_eq_some_iff.1 h).1, by simp [bigs], by simp [bigs], by unfold maxLen; omega, fun j u hj => ?_⟩
  have hf : EI.flat (bigs m) = [.int .i64 m.v, .int .i64 m.n, .int .i64 m.o, .int .i64 m.c, .int .i64 m.b, .int .i64 m.l, .int .i64 m.cl] := rfl
  rw [hf] at hj
  have : w.cell? ⟨A, 0 + j, none⟩ = #[Value.int .i64 m.v, .int .i64 m.n, .int .i64 m.o, .int .i64 m.c, .int .i64 m.b, .int .i64 m.l, .int .i64 m.cl][j]? := by simp [World.cell?, h]
  rw [this]
  simpa using hj
set_option maxRecDepth 100000 in
set_option maxRecDepth 100000 in
set_option maxHeartbeats 8000000 in
theorem mCheck_any (m : Mm) (u z : Value) (w : World) (hv : MAt w m u z) : Calls Tryz.prog 49 #[VM m u z] w fun e w' => e = .returned (.int .i64 (if right m = true then 0 else 4)) ∧ Below w.heap.size w w' := by
  have HV : Hid (MAt w m u z) := hv
  obtain ⟨ao1, cap1, rfl, -, -⟩ := hv.lives.open
  obtain ⟨ao2, cap2, rfl, hm2, -⟩ := hv.items.open
  unfold maxLen at hm2
  obtain ⟨n1, hn1⟩ : ∃ n1, m.lives.length = n1 := ⟨_, rfl⟩
  obtain ⟨n2, hn2⟩ : ∃ n2, m.items.length = n2 := ⟨_, rfl⟩
  obtain ⟨t1, h1⟩ : ∃ t, kB m.k = t := ⟨_, rfl⟩
  obtain ⟨t2, h2⟩ : ∃ t, (bigs m).all bigB = t := ⟨_, rfl⟩
  obtain ⟨t3, h3⟩ : ∃ t, livB m.lives = t := ⟨_, rfl⟩
  obtain ⟨t4, h4⟩ : ∃ t, decide (m.items.length ≤ 256) = t := ⟨_, rfl⟩
  obtain ⟨t5, h5⟩ : ∃ t, m.items.all okIt = t := ⟨_, rfl⟩
  obtain ⟨t6, h6⟩ : ∃ t, manB m.mo m.ms m.mm = t := ⟨_, rfl⟩
  obtain ⟨t7, h7⟩ : ∃ t, nB m.nu = t := ⟨_, rfl⟩
  obtain ⟨t8, h8⟩ : ∃ t, decide (m.d.size ≤ 8192) = t := ⟨_, rfl⟩
  have HE : Hid (right m = (t1 && (t2 && (t3 && (t4 && (t5 && (t6 && (t7 && t8)))))))) := by show _ = _; unfold right; rw [h1, h2, h3, h4, h5, h6, h7, h8]
  have h4' : decide ((n2 : Int) ≤ 256) = t4 := by rw [← h4, hn2]; simp; omega
  have h8' : decide ((m.d.size : Int) ≤ 8192) = t8 := by rw [← h8]; simp; omega
  have H1 : Hid (decide (1 ≤ m.k ∧ m.k ≤ 12) = t1) := h1
  have H2 : Hid ((bigs m).any (fun x => !bigB x) = !t2) := by show _ = _; rw [any_not, h2]
  have H3 : Hid (livB m.lives = t3) := h3
  have H5 : Hid (m.items.any (fun x => !okIt x) = !t5) := by show _ = _; rw [any_not, h5]
  have H6 : Hid (manB m.mo m.ms m.mm = t6) := h6
  have H7 : Hid (decide (0 ≤ m.nu ∧ m.nu ≤ 65535) = t7) := h7
  rw [HE.out]
  rw [hn1, hn2] at HV ⊢
  rw [hn2] at hm2
  obtain ⟨W, hW⟩ : ∃ W, w.alloc (BM m (.slice ao1 n1 cap1) (.slice ao2 n2 cap2)) = W := ⟨_, rfl⟩
  have HW : Hid (w.alloc (BM m (.slice ao1 n1 cap1) (.slice ao2 n2 cap2)) = W) := hW
  have HBW : Hid (Below w.heap.size w W) := by rw [← hW]; exact below_alloc _ _
  obtain ⟨A, hA⟩ : ∃ A, w.heap.size = A := ⟨_, rfl⟩
  have HA : Hid (w.heap.size = A) := hA
  have HX : Hid (W.heap[A]? = some (BM m (.slice ao1 n1 cap1) (.slice ao2 n2 cap2))) := by rw [← hW, ← hA]; exact heap_alloc_new _ _
  clear hv h1 h2 h3 h4 h5 h6 h7 h8 hW hA hn1 hn2
  cases t1 with
  | false =>
    go_enter Tryz.func49, Tryz.ntmps49
    go_wp2_with fail
    rw [HW.out, HA.out]
    refine (bigs_any m _ _ ⟨_, _, _, rfl⟩ ⟨_, _, _, rfl⟩ _).mono ?_
    rintro e w1 ⟨rfl, hb1⟩
    obtain ⟨V, hV⟩ : ∃ V, w1.alloc (B7 m) = V := ⟨_, rfl⟩
    have HVV : Hid (w1.alloc (B7 m) = V) := hV
    have HBV : Hid (Below W.heap.size W V) := by rw [← hV]; exact bup hb1 (below_alloc _ _)
    obtain ⟨Z, hZ⟩ : ∃ Z, w1.heap.size = Z := ⟨_, rfl⟩
    have HZ : Hid (w1.heap.size = Z) := hZ
    have H7A : Hid (AtW EI V (.slice (some ⟨Z, 0, none⟩) 7 7) (bigs m)) := by rw [← hV, ← hZ]; exact at_seven (heap_alloc_new _ _)
    obtain ⟨c0, -⟩ := mm_of (blk HX.out hb1)
    have hAl : A < w1.heap.size := World.block_lt_of_cell? _ _ c0
    have c0' := fun o => (cell_older hAl o 0).trans c0
    clear hb1 hV hZ c0 hAl
    go_wp2_with fail
    rw [HVV.out, HZ.out]
    refine (wiB _ _ _ _).mono ?_
    rintro e w2 ⟨rfl, rfl⟩
    rw [H1.out]
    clear c0'
    have HV2 : Hid (Below W.heap.size W w2) := HBV.out
    go_wp2
    go_ret
    exact ⟨rfl, bup HBW.out HV2.out⟩
  | true =>
    cases t2 with
    | false =>
      go_enter Tryz.func49, Tryz.ntmps49
      go_wp2_with fail
      rw [HW.out, HA.out]
      refine (bigs_any m _ _ ⟨_, _, _, rfl⟩ ⟨_, _, _, rfl⟩ _).mono ?_
      rintro e w1 ⟨rfl, hb1⟩
      obtain ⟨V, hV⟩ : ∃ V, w1.alloc (B7 m) = V := ⟨_, rfl⟩
      have HVV : Hid (w1.alloc (B7 m) = V) := hV
      have HBV : Hid (Below W.heap.size W V) := by rw [← hV]; exact bup hb1 (below_alloc _ _)
      obtain ⟨Z, hZ⟩ : ∃ Z, w1.heap.size = Z := ⟨_, rfl⟩
      have HZ : Hid (w1.heap.size = Z) := hZ
      have H7A : Hid (AtW EI V (.slice (some ⟨Z, 0, none⟩) 7 7) (bigs m)) := by rw [← hV, ← hZ]; exact at_seven (heap_alloc_new _ _)
      obtain ⟨c0, -⟩ := mm_of (blk HX.out hb1)
      have hAl : A < w1.heap.size := World.block_lt_of_cell? _ _ c0
      have c0' := fun o => (cell_older hAl o 0).trans c0
      clear hb1 hV hZ c0 hAl
      go_wp2_with fail
      rw [HVV.out, HZ.out]
      refine (wiB _ _ _ _).mono ?_
      rintro e w2 ⟨rfl, rfl⟩
      rw [H1.out]
      clear c0'
      have HV2 : Hid (Below W.heap.size W w2) := HBV.out
      go_wp2_with fail
      refine (conBig _ _ (fun x => !bigB x) _ H7A.out (fun y _ V _ => tooBig_any y V)).mono ?_
      rintro e w3 ⟨rfl, hb3⟩
      rw [H2.out]
      have HV3 : Hid (Below W.heap.size W w3) := bup HV2.out hb3
      clear hb3
      go_wp2
      go_ret
      exact ⟨rfl, bup HBW.out HV3.out⟩
    | true =>
      cases t3 with
      | false =>
        go_enter Tryz.func49, Tryz.ntmps49
        go_wp2_with fail
        rw [HW.out, HA.out]
        refine (bigs_any m _ _ ⟨_, _, _, rfl⟩ ⟨_, _, _, rfl⟩ _).mono ?_
        rintro e w1 ⟨rfl, hb1⟩
        obtain ⟨V, hV⟩ : ∃ V, w1.alloc (B7 m) = V := ⟨_, rfl⟩
        have HVV : Hid (w1.alloc (B7 m) = V) := hV
        have HBV : Hid (Below W.heap.size W V) := by rw [← hV]; exact bup hb1 (below_alloc _ _)
        obtain ⟨Z, hZ⟩ : ∃ Z, w1.heap.size = Z := ⟨_, rfl⟩
        have HZ : Hid (w1.heap.size = Z) := hZ
        have H7A : Hid (AtW EI V (.slice (some ⟨Z, 0, none⟩) 7 7) (bigs m)) := by rw [← hV, ← hZ]; exact at_seven (heap_alloc_new _ _)
        obtain ⟨c0, -⟩ := mm_of (blk HX.out hb1)
        have hAl : A < w1.heap.size := World.block_lt_of_cell? _ _ c0
        have c0' := fun o => (cell_older hAl o 0).trans c0
        clear hb1 hV hZ c0 hAl
        go_wp2_with fail
        rw [HVV.out, HZ.out]
        refine (wiB _ _ _ _).mono ?_
        rintro e w2 ⟨rfl, rfl⟩
        rw [H1.out]
        clear c0'
        have HV2 : Hid (Below W.heap.size W w2) := HBV.out
        go_wp2_with fail
        refine (conBig _ _ (fun x => !bigB x) _ H7A.out (fun y _ V _ => tooBig_any y V)).mono ?_
        rintro e w3 ⟨rfl, hb3⟩
        rw [H2.out]
        have HV3 : Hid (Below W.heap.size W w3) := bup HV2.out hb3
        clear hb3
        obtain ⟨c0, c1, c2, c3, c4, c5, c6, c7, c8, c9, c10, c11, c12, c13, c14⟩ := mm_of (blk HX.out HV3.out)
        go_wp2_with fail
        refine (rLives_any _ _ _ (HV.out.lives.up (bup HBW.out HV3.out))).mono ?_
        rintro e w4 ⟨rfl, hb4⟩
        rw [H3.out]
        have HV4 : Hid (Below W.heap.size W w4) := bup HV3.out hb4
        clear hb4
        clear c0 c1 c2 c3 c4 c5 c6 c7 c8 c9 c10 c11 c12 c13 c14
        go_wp2
        go_ret
        exact ⟨rfl, bup HBW.out HV4.out⟩
      | true =>
        cases t4 with
        | false =>
          go_enter Tryz.func49, Tryz.ntmps49
          go_wp2_with fail
          rw [HW.out, HA.out]
          refine (bigs_any m _ _ ⟨_, _, _, rfl⟩ ⟨_, _, _, rfl⟩ _).mono ?_
          rintro e w1 ⟨rfl, hb1⟩
          obtain ⟨V, hV⟩ : ∃ V, w1.alloc (B7 m) = V := ⟨_, rfl⟩
          have HVV : Hid (w1.alloc (B7 m) = V) := hV
          have HBV : Hid (Below W.heap.size W V) := by rw [← hV]; exact bup hb1 (below_alloc _ _)
          obtain ⟨Z, hZ⟩ : ∃ Z, w1.heap.size = Z := ⟨_, rfl⟩
          have HZ : Hid (w1.heap.size = Z) := hZ
          have H7A : Hid (AtW EI V (.slice (some ⟨Z, 0, none⟩) 7 7) (bigs m)) := by rw [← hV, ← hZ]; exact at_seven (heap_alloc_new _ _)
          obtain ⟨c0, -⟩ := mm_of (blk HX.out hb1)
          have hAl : A < w1.heap.size := World.block_lt_of_cell? _ _ c0
          have c0' := fun o => (cell_older hAl o 0).trans c0
          clear hb1 hV hZ c0 hAl
          go_wp2_with fail
          rw [HVV.out, HZ.out]
          refine (wiB _ _ _ _).mono ?_
          rintro e w2 ⟨rfl, rfl⟩
          rw [H1.out]
          clear c0'
          have HV2 : Hid (Below W.heap.size W w2) := HBV.out
          go_wp2_with fail
          refine (conBig _ _ (fun x => !bigB x) _ H7A.out (fun y _ V _ => tooBig_any y V)).mono ?_
          rintro e w3 ⟨rfl, hb3⟩
          rw [H2.out]
          have HV3 : Hid (Below W.heap.size W w3) := bup HV2.out hb3
          clear hb3
          obtain ⟨c0, c1, c2, c3, c4, c5, c6, c7, c8, c9, c10, c11, c12, c13, c14⟩ := mm_of (blk HX.out HV3.out)
          go_wp2_with fail
          refine (rLives_any _ _ _ (HV.out.lives.up (bup HBW.out HV3.out))).mono ?_
          rintro e w4 ⟨rfl, hb4⟩
          rw [H3.out]
          have HV4 : Hid (Below W.heap.size W w4) := bup HV3.out hb4
          clear hb4
          clear c0 c1 c2 c3 c4 c5 c6 c7 c8 c9 c10 c11 c12 c13 c14
          obtain ⟨c0, c1, c2, c3, c4, c5, c6, c7, c8, c9, c10, c11, c12, c13, c14⟩ := mm_of (blk HX.out HV4.out)
          go_wp2
          go_ret
          exact ⟨rfl, bup HBW.out HV4.out⟩
        | true =>
          cases t5 with
          | false =>
            go_enter Tryz.func49, Tryz.ntmps49
            go_wp2_with fail
            rw [HW.out, HA.out]
            refine (bigs_any m _ _ ⟨_, _, _, rfl⟩ ⟨_, _, _, rfl⟩ _).mono ?_
            rintro e w1 ⟨rfl, hb1⟩
            obtain ⟨V, hV⟩ : ∃ V, w1.alloc (B7 m) = V := ⟨_, rfl⟩
            have HVV : Hid (w1.alloc (B7 m) = V) := hV
            have HBV : Hid (Below W.heap.size W V) := by rw [← hV]; exact bup hb1 (below_alloc _ _)
            obtain ⟨Z, hZ⟩ : ∃ Z, w1.heap.size = Z := ⟨_, rfl⟩
            have HZ : Hid (w1.heap.size = Z) := hZ
            have H7A : Hid (AtW EI V (.slice (some ⟨Z, 0, none⟩) 7 7) (bigs m)) := by rw [← hV, ← hZ]; exact at_seven (heap_alloc_new _ _)
            obtain ⟨c0, -⟩ := mm_of (blk HX.out hb1)
            have hAl : A < w1.heap.size := World.block_lt_of_cell? _ _ c0
            have c0' := fun o => (cell_older hAl o 0).trans c0
            clear hb1 hV hZ c0 hAl
            go_wp2_with fail
            rw [HVV.out, HZ.out]
            refine (wiB _ _ _ _).mono ?_
            rintro e w2 ⟨rfl, rfl⟩
            rw [H1.out]
            clear c0'
            have HV2 : Hid (Below W.heap.size W w2) := HBV.out
            go_wp2_with fail
            refine (conBig _ _ (fun x => !bigB x) _ H7A.out (fun y _ V _ => tooBig_any y V)).mono ?_
            rintro e w3 ⟨rfl, hb3⟩
            rw [H2.out]
            have HV3 : Hid (Below W.heap.size W w3) := bup HV2.out hb3
            clear hb3
            obtain ⟨c0, c1, c2, c3, c4, c5, c6, c7, c8, c9, c10, c11, c12, c13, c14⟩ := mm_of (blk HX.out HV3.out)
            go_wp2_with fail
            refine (rLives_any _ _ _ (HV.out.lives.up (bup HBW.out HV3.out))).mono ?_
            rintro e w4 ⟨rfl, hb4⟩
            rw [H3.out]
            have HV4 : Hid (Below W.heap.size W w4) := bup HV3.out hb4
            clear hb4
            clear c0 c1 c2 c3 c4 c5 c6 c7 c8 c9 c10 c11 c12 c13 c14
            obtain ⟨c0, c1, c2, c3, c4, c5, c6, c7, c8, c9, c10, c11, c12, c13, c14⟩ := mm_of (blk HX.out HV4.out)
            go_wp2_with fail
            refine (conWI _ _ (fun x => !okIt x) _ (HV.out.items.up (bup HBW.out HV4.out)) (fun y _ V _ => wrongItem_any y V)).mono ?_
            rintro e w5 ⟨rfl, hb5⟩
            rw [H5.out]
            have HV5 : Hid (Below W.heap.size W w5) := bup HV4.out hb5
            clear hb5
            clear c0 c1 c2 c3 c4 c5 c6 c7 c8 c9 c10 c11 c12 c13 c14
            go_wp2
            go_ret
            exact ⟨rfl, bup HBW.out HV5.out⟩
          | true =>
            cases t6 with
            | false =>
              go_enter Tryz.func49, Tryz.ntmps49
              go_wp2_with fail
              rw [HW.out, HA.out]
              refine (bigs_any m _ _ ⟨_, _, _, rfl⟩ ⟨_, _, _, rfl⟩ _).mono ?_
              rintro e w1 ⟨rfl, hb1⟩
              obtain ⟨V, hV⟩ : ∃ V, w1.alloc (B7 m) = V := ⟨_, rfl⟩
              have HVV : Hid (w1.alloc (B7 m) = V) := hV
              have HBV : Hid (Below W.heap.size W V) := by rw [← hV]; exact bup hb1 (below_alloc _ _)
              obtain ⟨Z, hZ⟩ : ∃ Z, w1.heap.size = Z := ⟨_, rfl⟩
              have HZ : Hid (w1.heap.size = Z) := hZ
              have H7A : Hid (AtW EI V (.slice (some ⟨Z, 0, none⟩) 7 7) (bigs m)) := by rw [← hV, ← hZ]; exact at_seven (heap_alloc_new _ _)
              obtain ⟨c0, -⟩ := mm_of (blk HX.out hb1)
              have hAl : A < w1.heap.size := World.block_lt_of_cell? _ _ c0
              have c0' := fun o => (cell_older hAl o 0).trans c0
              clear hb1 hV hZ c0 hAl
              go_wp2_with fail
              rw [HVV.out, HZ.out]
              refine (wiB _ _ _ _).mono ?_
              rintro e w2 ⟨rfl, rfl⟩
              rw [H1.out]
              clear c0'
              have HV2 : Hid (Below W.heap.size W w2) := HBV.out
              go_wp2_with fail
              refine (conBig _ _ (fun x => !bigB x) _ H7A.out (fun y _ V _ => tooBig_any y V)).mono ?_
              rintro e w3 ⟨rfl, hb3⟩
              rw [H2.out]
              have HV3 : Hid (Below W.heap.size W w3) := bup HV2.out hb3
              clear hb3
              obtain ⟨c0, c1, c2, c3, c4, c5, c6, c7, c8, c9, c10, c11, c12, c13, c14⟩ := mm_of (blk HX.out HV3.out)
              go_wp2_with fail
              refine (rLives_any _ _ _ (HV.out.lives.up (bup HBW.out HV3.out))).mono ?_
              rintro e w4 ⟨rfl, hb4⟩
              rw [H3.out]
              have HV4 : Hid (Below W.heap.size W w4) := bup HV3.out hb4
              clear hb4
              clear c0 c1 c2 c3 c4 c5 c6 c7 c8 c9 c10 c11 c12 c13 c14
              obtain ⟨c0, c1, c2, c3, c4, c5, c6, c7, c8, c9, c10, c11, c12, c13, c14⟩ := mm_of (blk HX.out HV4.out)
              go_wp2_with fail
              refine (conWI _ _ (fun x => !okIt x) _ (HV.out.items.up (bup HBW.out HV4.out)) (fun y _ V _ => wrongItem_any y V)).mono ?_
              rintro e w5 ⟨rfl, hb5⟩
              rw [H5.out]
              have HV5 : Hid (Below W.heap.size W w5) := bup HV4.out hb5
              clear hb5
              clear c0 c1 c2 c3 c4 c5 c6 c7 c8 c9 c10 c11 c12 c13 c14
              obtain ⟨c0, c1, c2, c3, c4, c5, c6, c7, c8, c9, c10, c11, c12, c13, c14⟩ := mm_of (blk HX.out HV5.out)
              go_wp2_with fail
              refine (rMan_any _ _ _ _).mono ?_
              rintro e w6 ⟨rfl, hb6⟩
              rw [H6.out]
              have HV6 : Hid (Below W.heap.size W w6) := bup HV5.out hb6
              clear hb6
              clear c0 c1 c2 c3 c4 c5 c6 c7 c8 c9 c10 c11 c12 c13 c14
              go_wp2
              go_ret
              exact ⟨rfl, bup HBW.out HV6.out⟩
            | true =>
              cases t7 with
              | false =>
                go_enter Tryz.func49, Tryz.ntmps49
                go_wp2_with fail
                rw [HW.out, HA.out]
                refine (bigs_any m _ _ ⟨_, _, _, rfl⟩ ⟨_, _, _, rfl⟩ _).mono ?_
                rintro e w1 ⟨rfl, hb1⟩
                obtain ⟨V, hV⟩ : ∃ V, w1.alloc (B7 m) = V := ⟨_, rfl⟩
                have HVV : Hid (w1.alloc (B7 m) = V) := hV
                have HBV : Hid (Below W.heap.size W V) := by rw [← hV]; exact bup hb1 (below_alloc _ _)
                obtain ⟨Z, hZ⟩ : ∃ Z, w1.heap.size = Z := ⟨_, rfl⟩
                have HZ : Hid (w1.heap.size = Z) := hZ
                have H7A : Hid (AtW EI V (.slice (some ⟨Z, 0, none⟩) 7 7) (bigs m)) := by rw [← hV, ← hZ]; exact at_seven (heap_alloc_new _ _)
                obtain ⟨c0, -⟩ := mm_of (blk HX.out hb1)
                have hAl : A < w1.heap.size := World.block_lt_of_cell? _ _ c0
                have c0' := fun o => (cell_older hAl o 0).trans c0
                clear hb1 hV hZ c0 hAl
                go_wp2_with fail
                rw [HVV.out, HZ.out]
                refine (wiB _ _ _ _).mono ?_
                rintro e w2 ⟨rfl, rfl⟩
                rw [H1.out]
                clear c0'
                have HV2 : Hid (Below W.heap.size W w2) := HBV.out
                go_wp2_with fail
                refine (conBig _ _ (fun x => !bigB x) _ H7A.out (fun y _ V _ => tooBig_any y V)).mono ?_
                rintro e w3 ⟨rfl, hb3⟩
                rw [H2.out]
                have HV3 : Hid (Below W.heap.size W w3) := bup HV2.out hb3
                clear hb3
                obtain ⟨c0, c1, c2, c3, c4, c5, c6, c7, c8, c9, c10, c11, c12, c13, c14⟩ := mm_of (blk HX.out HV3.out)
                go_wp2_with fail
                refine (rLives_any _ _ _ (HV.out.lives.up (bup HBW.out HV3.out))).mono ?_
                rintro e w4 ⟨rfl, hb4⟩
                rw [H3.out]
                have HV4 : Hid (Below W.heap.size W w4) := bup HV3.out hb4
                clear hb4
                clear c0 c1 c2 c3 c4 c5 c6 c7 c8 c9 c10 c11 c12 c13 c14
                obtain ⟨c0, c1, c2, c3, c4, c5, c6, c7, c8, c9, c10, c11, c12, c13, c14⟩ := mm_of (blk HX.out HV4.out)
                go_wp2_with fail
                refine (conWI _ _ (fun x => !okIt x) _ (HV.out.items.up (bup HBW.out HV4.out)) (fun y _ V _ => wrongItem_any y V)).mono ?_
                rintro e w5 ⟨rfl, hb5⟩
                rw [H5.out]
                have HV5 : Hid (Below W.heap.size W w5) := bup HV4.out hb5
                clear hb5
                clear c0 c1 c2 c3 c4 c5 c6 c7 c8 c9 c10 c11 c12 c13 c14
                obtain ⟨c0, c1, c2, c3, c4, c5, c6, c7, c8, c9, c10, c11, c12, c13, c14⟩ := mm_of (blk HX.out HV5.out)
                go_wp2_with fail
                refine (rMan_any _ _ _ _).mono ?_
                rintro e w6 ⟨rfl, hb6⟩
                rw [H6.out]
                have HV6 : Hid (Below W.heap.size W w6) := bup HV5.out hb6
                clear hb6
                clear c0 c1 c2 c3 c4 c5 c6 c7 c8 c9 c10 c11 c12 c13 c14
                obtain ⟨c0, c1, c2, c3, c4, c5, c6, c7, c8, c9, c10, c11, c12, c13, c14⟩ := mm_of (blk HX.out HV6.out)
                go_wp2_with fail
                refine (wiB _ _ _ _).mono ?_
                rintro e w7 ⟨rfl, rfl⟩
                rw [H7.out]
                go_wp2
                go_ret
                exact ⟨rfl, bup HBW.out HV6.out⟩
              | true =>
                cases t8 with
                | false =>
                  go_enter Tryz.func49, Tryz.ntmps49
                  go_wp2_with fail
                  rw [HW.out, HA.out]
                  refine (bigs_any m _ _ ⟨_, _, _, rfl⟩ ⟨_, _, _, rfl⟩ _).mono ?_
                  rintro e w1 ⟨rfl, hb1⟩
                  obtain ⟨V, hV⟩ : ∃ V, w1.alloc (B7 m) = V := ⟨_, rfl⟩
                  have HVV : Hid (w1.alloc (B7 m) = V) := hV
                  have HBV : Hid (Below W.heap.size W V) := by rw [← hV]; exact bup hb1 (below_alloc _ _)
                  obtain ⟨Z, hZ⟩ : ∃ Z, w1.heap.size = Z := ⟨_, rfl⟩
                  have HZ : Hid (w1.heap.size = Z) := hZ
                  have H7A : Hid (AtW EI V (.slice (some ⟨Z, 0, none⟩) 7 7) (bigs m)) := by rw [← hV, ← hZ]; exact at_seven (heap_alloc_new _ _)
                  obtain ⟨c0, -⟩ := mm_of (blk HX.out hb1)
                  have hAl : A < w1.heap.size := World.block_lt_of_cell? _ _ c0
                  have c0' := fun o => (cell_older hAl o 0).trans c0
                  clear hb1 hV hZ c0 hAl
                  go_wp2_with fail
                  rw [HVV.out, HZ.out]
                  refine (wiB _ _ _ _).mono ?_
                  rintro e w2 ⟨rfl, rfl⟩
                  rw [H1.out]
                  clear c0'
                  have HV2 : Hid (Below W.heap.size W w2) := HBV.out
                  go_wp2_with fail
                  refine (conBig _ _ (fun x => !bigB x) _ H7A.out (fun y _ V _ => tooBig_any y V)).mono ?_
                  rintro e w3 ⟨rfl, hb3⟩
                  rw [H2.out]
                  have HV3 : Hid (Below W.heap.size W w3) := bup HV2.out hb3
                  clear hb3
                  obtain ⟨c0, c1, c2, c3, c4, c5, c6, c7, c8, c9, c10, c11, c12, c13, c14⟩ := mm_of (blk HX.out HV3.out)
                  go_wp2_with fail
                  refine (rLives_any _ _ _ (HV.out.lives.up (bup HBW.out HV3.out))).mono ?_
                  rintro e w4 ⟨rfl, hb4⟩
                  rw [H3.out]
                  have HV4 : Hid (Below W.heap.size W w4) := bup HV3.out hb4
                  clear hb4
                  clear c0 c1 c2 c3 c4 c5 c6 c7 c8 c9 c10 c11 c12 c13 c14
                  obtain ⟨c0, c1, c2, c3, c4, c5, c6, c7, c8, c9, c10, c11, c12, c13, c14⟩ := mm_of (blk HX.out HV4.out)
                  go_wp2_with fail
                  refine (conWI _ _ (fun x => !okIt x) _ (HV.out.items.up (bup HBW.out HV4.out)) (fun y _ V _ => wrongItem_any y V)).mono ?_
                  rintro e w5 ⟨rfl, hb5⟩
                  rw [H5.out]
                  have HV5 : Hid (Below W.heap.size W w5) := bup HV4.out hb5
                  clear hb5
                  clear c0 c1 c2 c3 c4 c5 c6 c7 c8 c9 c10 c11 c12 c13 c14
                  obtain ⟨c0, c1, c2, c3, c4, c5, c6, c7, c8, c9, c10, c11, c12, c13, c14⟩ := mm_of (blk HX.out HV5.out)
                  go_wp2_with fail
                  refine (rMan_any _ _ _ _).mono ?_
                  rintro e w6 ⟨rfl, hb6⟩
                  rw [H6.out]
                  have HV6 : Hid (Below W.heap.size W w6) := bup HV5.out hb6
                  clear hb6
                  clear c0 c1 c2 c3 c4 c5 c6 c7 c8 c9 c10 c11 c12 c13 c14
                  obtain ⟨c0, c1, c2, c3, c4, c5, c6, c7, c8, c9, c10, c11, c12, c13, c14⟩ := mm_of (blk HX.out HV6.out)
                  go_wp2_with fail
                  refine (wiB _ _ _ _).mono ?_
                  rintro e w7 ⟨rfl, rfl⟩
                  rw [H7.out]
                  go_wp2
                  go_ret
                  exact ⟨rfl, bup HBW.out HV6.out⟩
                | true =>
                  go_enter Tryz.func49, Tryz.ntmps49
                  go_wp2_with fail
                  rw [HW.out, HA.out]
                  refine (bigs_any m _ _ ⟨_, _, _, rfl⟩ ⟨_, _, _, rfl⟩ _).mono ?_
                  rintro e w1 ⟨rfl, hb1⟩
                  obtain ⟨V, hV⟩ : ∃ V, w1.alloc (B7 m) = V := ⟨_, rfl⟩
                  have HVV : Hid (w1.alloc (B7 m) = V) := hV
                  have HBV : Hid (Below W.heap.size W V) := by rw [← hV]; exact bup hb1 (below_alloc _ _)
                  obtain ⟨Z, hZ⟩ : ∃ Z, w1.heap.size = Z := ⟨_, rfl⟩
                  have HZ : Hid (w1.heap.size = Z) := hZ
                  have H7A : Hid (AtW EI V (.slice (some ⟨Z, 0, none⟩) 7 7) (bigs m)) := by rw [← hV, ← hZ]; exact at_seven (heap_alloc_new _ _)
                  obtain ⟨c0, -⟩ := mm_of (blk HX.out hb1)
                  have hAl : A < w1.heap.size := World.block_lt_of_cell? _ _ c0
                  have c0' := fun o => (cell_older hAl o 0).trans c0
                  clear hb1 hV hZ c0 hAl
                  go_wp2_with fail
                  rw [HVV.out, HZ.out]
                  refine (wiB _ _ _ _).mono ?_
                  rintro e w2 ⟨rfl, rfl⟩
                  rw [H1.out]
                  clear c0'
                  have HV2 : Hid (Below W.heap.size W w2) := HBV.out
                  go_wp2_with fail
                  refine (conBig _ _ (fun x => !bigB x) _ H7A.out (fun y _ V _ => tooBig_any y V)).mono ?_
                  rintro e w3 ⟨rfl, hb3⟩
                  rw [H2.out]
                  have HV3 : Hid (Below W.heap.size W w3) := bup HV2.out hb3
                  clear hb3
                  obtain ⟨c0, c1, c2, c3, c4, c5, c6, c7, c8, c9, c10, c11, c12, c13, c14⟩ := mm_of (blk HX.out HV3.out)
                  go_wp2_with fail
                  refine (rLives_any _ _ _ (HV.out.lives.up (bup HBW.out HV3.out))).mono ?_
                  rintro e w4 ⟨rfl, hb4⟩
                  rw [H3.out]
                  have HV4 : Hid (Below W.heap.size W w4) := bup HV3.out hb4
                  clear hb4
                  clear c0 c1 c2 c3 c4 c5 c6 c7 c8 c9 c10 c11 c12 c13 c14
                  obtain ⟨c0, c1, c2, c3, c4, c5, c6, c7, c8, c9, c10, c11, c12, c13, c14⟩ := mm_of (blk HX.out HV4.out)
                  go_wp2_with fail
                  refine (conWI _ _ (fun x => !okIt x) _ (HV.out.items.up (bup HBW.out HV4.out)) (fun y _ V _ => wrongItem_any y V)).mono ?_
                  rintro e w5 ⟨rfl, hb5⟩
                  rw [H5.out]
                  have HV5 : Hid (Below W.heap.size W w5) := bup HV4.out hb5
                  clear hb5
                  clear c0 c1 c2 c3 c4 c5 c6 c7 c8 c9 c10 c11 c12 c13 c14
                  obtain ⟨c0, c1, c2, c3, c4, c5, c6, c7, c8, c9, c10, c11, c12, c13, c14⟩ := mm_of (blk HX.out HV5.out)
                  go_wp2_with fail
                  refine (rMan_any _ _ _ _).mono ?_
                  rintro e w6 ⟨rfl, hb6⟩
                  rw [H6.out]
                  have HV6 : Hid (Below W.heap.size W w6) := bup HV5.out hb6
                  clear hb6
                  clear c0 c1 c2 c3 c4 c5 c6 c7 c8 c9 c10 c11 c12 c13 c14
                  obtain ⟨c0, c1, c2, c3, c4, c5, c6, c7, c8, c9, c10, c11, c12, c13, c14⟩ := mm_of (blk HX.out HV6.out)
                  go_wp2_with fail
                  refine (wiB _ _ _ _).mono ?_
                  rintro e w7 ⟨rfl, rfl⟩
                  rw [H7.out]
                  go_wp2
                  go_ret
                  exact ⟨rfl, bup HBW.out HV6.out⟩
end Go.Proofs.YtkdhbjmpjbdobaaGreatDoor
/- WAdd -/
namespace Go.Proofs.YtkdhbjmpjbdobaaGreatDoor
open Go.ChangeShapes Go.WideShapes Go.ChangeAt Go.RowKit Go.Deep Me
set_option maxRecDepth 100000

/-- Any world grown from w. -/
structure Grw (w : World) where
  out : World
  grown : w.grownBy out none
theorem grw_some (w : World) : Nonempty (Grw w) := ⟨⟨w, grown_refl _ _⟩⟩
/-- A region that only reads, and whose callees read and lay blocks of their own, walked once. -/
theorem wp_region_grw {P : Program} {id : Nat} {Q : Exit → Act → World → Prop} {a : Act} {w : World} {l : List Oper} (hm : P.follows .mixedOrders = true) (hB : Region.lexB .any l.toArray = true)
    (h : wpQuiet P l.toArray (fun w' => ∃ p : Grw w, w' = p.out) (fun a' => ∀ w', (∃ p : Grw w, w' = p.out) → Q .normal a' w') l a) : (Code.region id l.toArray true).wp P Q a w :=
  wp_region_quiet (C := fun w' => ∃ p : Grw w, w' = p.out) hm hB ⟨⟨w.drew, ⟨rfl, rfl, rfl, Nat.le_refl _, fun _ _ _ => rfl⟩⟩, rfl⟩ (by simpa using h)
theorem calls_grw {P : Program} {f : FuncId} {args : Array Value} {w W : World} {v : Value} (hg : w.grownBy W none)
    (h : Calls P f args W fun e w' => e = .returned v ∧ Below W.heap.size W w') : Calls P f args W fun e w'' => e = .returned v ∧ ∃ p : Grw w, w'' = p.out :=
  h.mono fun _ w' ⟨he, hw⟩ => ⟨he, ⟨w', grown_trans hg (grown_of_below hw none)⟩, rfl⟩
theorem Grw.below {w : World} (p : Grw w) : Below w.heap.size w p.out := below_none p.grown (Nat.le_refl _)
theorem cell_lt {w : World} {b j : Nat} {v : Value} (h : w.cell? ⟨b, j, none⟩ = some v) : b < w.heap.size := by
  rcases Nat.lt_or_ge b w.heap.size with h' | h'
  · exact h'
  · simp [World.cell?, Array.getElem?_eq_none h'] at h
theorem cell_step {w w' : World} {b j : Nat} {v : Value} (h : w.cell? ⟨b, j, none⟩ = some v) (hb : Below w.heap.size w w') : w'.cell? ⟨b, j, none⟩ = some v := (hb.cell (p := ⟨b, j, none⟩) (cell_lt h)).trans h
theorem Grw.cell {w : World} (p : Grw w) {b j : Nat} {v : Value} (h : w.cell? ⟨b, j, none⟩ = some v) : p.out.cell? ⟨b, j, none⟩ = some v := cell_step h p.below
theorem block_lt {w : World} {b : Nat} {o : Obj} (h : w.heap[b]? = some o) : b < w.heap.size := by
  rcases Nat.lt_or_ge b w.heap.size with h' | h'
  · exact h'
  · rw [Array.getElem?_eq_none h'] at h; cases h
theorem block_step {w w' : World} {b : Nat} {o : Obj} (h : w.heap[b]? = some o) (hb : Below w.heap.size w w') : w'.heap[b]? = some o := (hb.block b (block_lt h)).trans h

theorem infoF : (Tryz.prog.info? 168).map (fun i => (i.zero, i.size, i.bytes)) = some (some (.agg #[.int .i64 0, .string ⟨#[]⟩]), 2, 24) := by kernel_rfl
theorem info_parts {P : Program} {e : TypeId} {z : Value} {n b : Nat} (h : (P.info? e).map (fun i => (i.zero, i.size, i.bytes)) = some (some z, n, b)) : ∃ i, P.info? e = some i ∧ i.zero = some z ∧ i.size = n ∧ i.bytes = b := by
  cases hi : P.info? e with
  | none => rw [hi] at h; cases h
  | some i =>
    rw [hi] at h
    simp at h
    exact ⟨i, rfl, h.1, h.2.1, h.2.2⟩
theorem num_s (n size : Int) (w : World) (hn : n ≤ 9223372036854775807) : Calls Tryz.prog 86 #[.int .i64 n, .int .i64 size] w fun e w' => e = .returned (.string (Pl.numOut n size)) ∧ Below w.heap.size w w' := by
  go_enter Tryz.func86, Tryz.ntmps86
  go_wp2_with fail
  refine (num_any n size _ hn).mono ?_
  rintro e w1 ⟨rfl, hb⟩
  go_wp2
  go_ret
  exact ⟨rfl, hb⟩
/-- What holds behind each field: the box b has a slice of the call's own, whose fields are l; the blocks of w0 are as they were. -/
structure St (n0 b : Nat) (l : List (Int × ByteArray)) (w0 : World) (v : Value) (w : World) : Prop where
  box : Boxed w b 117 v
  row : w.ownsRow n0 168 2 v l.length (cellsOf l)
  below : Below n0 w0 w
  base : n0 ≤ b
  start : n0 ≤ w0.heap.size
theorem St.step {n0 b : Nat} {l : List (Int × ByteArray)} {w0 w w' : World} {v : Value} (h : St n0 b l w0 v w) (hb : Below w.heap.size w w') : St n0 b l w0 v w' :=
  ⟨block_step h.box hb, h.row.kept (grown_of_below hb none) (Classical.em _), h.below.trans (hb.mono (Nat.le_trans h.start h.below.size)), h.base, h.start⟩
theorem St.fields {n0 b : Nat} {l : List (Int × ByteArray)} {w0 w : World} {v : Value} (h : St n0 b l w0 v w) : FieldsAt w.heap.size w v l := FieldsAt.of_own h.row

def Others (b : Nat) (w w' : World) : Prop := ∀ B o t, t ≠ 168 → B ≠ b → w.heap[B]? = some (.cells o t (0, 0)) → w'.heap[B]? = some (.cells o t (0, 0))
theorem added {n0 b : Nat} {l : List (Int × ByteArray)} {w0 w w1 : World} {v v1 : Value} {tag : Int} {s : ByteArray} {o : Obj} (h : St n0 b l w0 v w)
    (hown : w1.ownsRow n0 168 2 v1 (l.length + 1) (cellsOf l ++ [.int .i64 tag, .string s])) (hgrow : (w.alloc o).grownBy w1 v.ownBlock) :
    ∃ g cap, v1 = .slice (some ⟨g, 0, none⟩) (l.length + 1) cap ∧ w1.cell? ⟨b, 0, none⟩ = some v ∧ w1.frozen? ⟨b, 0, none⟩ = false ∧ b < w1.heap.size ∧ Hid (St n0 b (l ++ [(tag, s)]) w0 v1 (w1.setCell ⟨b, 0, none⟩ v1) ∧ Others b w (w1.setCell ⟨b, 0, none⟩ v1)) := by
  obtain ⟨g1, cap1, hv1⟩ := ownsRow_succ hown
  have hb1 : Boxed w1 b 117 v := (h.box.alloc _).kept hgrow ((h.box.alloc o).not_row (by decide) (h.row.alloc o))
  refine ⟨g1, cap1, hv1, hb1.cell, hb1.frozen, hb1.lt, ⟨hb1.set _, ?_, ?_, h.base, h.start⟩, ?_⟩
  · refine World.ownsRow.kept (w := w1) ?_ (grownBy_setCell' w1 b _) (.inr (hb1.not_row (by decide) hown).symm)
    rw [cellsOf_append, List.length_append]
    exact hown
  · have h1 := h.below.size
    have h2 := h.start
    exact ((h.below.alloc (Nat.le_trans h2 h1) _).grown hgrow (by simp; omega) (fun g hg => (h.row.lt g hg).1)).setCell (p := ⟨b, 0, none⟩) h.base _
  · intro B o' t ht hB hBo
    have h1 : w1.heap[B]? = some (.cells o' t (0, 0)) := App.keep (h.row.alloc o) hgrow ((Below.heap_alloc w o B (block_lt hBo)).trans hBo) ht
    exact (Below.heap_setCell _ _ _ B (fun e => hB e)).trans h1
set_option maxRecDepth 100000 in
set_option maxHeartbeats 1000000 in
theorem add_any (there : Bool) (tag : Int) (s : ByteArray) (n0 b : Nat) (l : List (Int × ByteArray)) (w0 : World) (v : Value) (w : World) (h : St n0 b l w0 v w) (hl : l.length ≤ 1000) :
    Calls Tryz.prog 85 #[.bool there, .int .i64 tag, .string s, .pointer (some ⟨b, 0, none⟩)] w fun e w' => e = .returned (.tuple #[]) ∧ ∃ v', St n0 b (l ++ opt there (tag, s)) w0 v' w' ∧ Others b w w' := by
  cases there with
  | false =>
    have HL : Hid (l ++ opt false (tag, s) = l) := by simp [Hid, opt]
    rw [HL.out]
    go_enter Tryz.func85, Tryz.ntmps85
    go_wp2
    go_end0
    exact ⟨rfl, v, h, fun _ _ _ _ _ hB => hB⟩
  | true =>
    have HL : Hid (l ++ opt true (tag, s) = l ++ [(tag, s)]) := by simp [Hid, opt]
    rw [HL.out]
    obtain ⟨i0, hi, hz0, hz1, hz2⟩ := info_parts infoF
    have hc := h.box.cell
    have hlt := h.box.lt
    have HH : Hid (St n0 b l w0 v w) := h
    clear h
    go_enter Tryz.func85, Tryz.ntmps85
    go_wp2_with (at_builtin; refine wpList_append_own _ rfl (.tmp 8) (.tmp 12) 117 rfl n0 168 i0 (.agg #[.int .i64 0, .string ⟨#[]⟩]) 2 24 Tryz.underlying117 hi hz0 hz1 hz2 rfl (by decide) _ _ _ rfl (HH.out.row.alloc _) ⟨w.heap.size, 0, none⟩ 1 1 [.int .i64 tag, .string s] rfl rfl (App.two_new _ _ rfl _ _ _) (App.one2 _ _) (by unfold maxLen; omega) (by omega) (by have := HH.out.below.size; have := HH.out.start; simp; omega) ?_; intro v1 w1 hown1 hgrow1 _; obtain ⟨g1, cap1, rfl, q0, q1, q2, HQ⟩ := added HH.out hown1 hgrow1; clear hown1 hgrow1)
    go_end0
    exact ⟨rfl, _, HQ.out⟩
end Go.Proofs.YtkdhbjmpjbdobaaGreatDoor
