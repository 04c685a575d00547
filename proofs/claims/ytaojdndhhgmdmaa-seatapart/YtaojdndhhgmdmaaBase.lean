/-
  seat.within, rightReq, Check, refuse, refuseRequest; sort.Search with place's function; place: what they answer.
-/
import Derived.Test.YtaojdndhhgmdmaaRows
import Derived.Test.YtaojdndhhgmdmaaPlain
import Derived.Test.YtaojdndhhgmdmaaRow
import Derived.WalkKit
import Derived.WalkSpells
import Derived.WalkLawsBesides
import Derived.ProofKit
import Derived.BigQuiet
import Derived.Deep.QuietTactic
import Derived.Deep.RegionHeld3
import Derived.Deep.SlicePairs
namespace Go.Proofs.Ytaojdndhhgmdmaa
open Go.ChangeShapes Go.WideShapes Go.ChangeAt Go.RowKit Go.Deep
theorem laidOut : laidOutB Try.prog = true := by kernel_rfl
theorem own : ownKnob Try.prog.godebug = none := by kernel_rfl
theorem infoS : (Try.prog.info? 48).map (fun i => (i.zero, i.size, i.bytes)) = some (some (.agg #[.int .i64 0, .int .i64 0, .string ⟨#[]⟩]), 3, 32) := by kernel_rfl
theorem info_parts {P : Program} {e : TypeId} {z : Value} {n b : Nat} (h : (P.info? e).map (fun i => (i.zero, i.size, i.bytes)) = some (some z, n, b)) : ∃ i, P.info? e = some i ∧ i.zero = some z ∧ i.size = n ∧ i.bytes = b := by
  cases hi : P.info? e with
  | none => rw [hi] at h; cases h
  | some i =>
    rw [hi] at h
    simp at h
    exact ⟨i, rfl, h.1, h.2.1, h.2.2⟩
theorem within_any (lo x hi : Int) (w : World) : Calls Try.prog 21 #[.int .i64 lo, .int .i64 x, .int .i64 hi] w fun e w' => e = .returned (.bool (decide (lo ≤ x ∧ x ≤ hi))) ∧ w' = w := by
  by_cases h1 : lo ≤ x
  · by_cases h2 : x ≤ hi
    · rw [decide_eq_true (show lo ≤ x ∧ x ≤ hi from ⟨h1, h2⟩)]
      go_enter Try.func21, Try.ntmps21
      go_wp2
      go_ret
      exact ⟨rfl, rfl⟩
    · rw [decide_eq_false (show ¬ (lo ≤ x ∧ x ≤ hi) from fun h => h2 h.2)]
      go_enter Try.func21, Try.ntmps21
      go_wp2
      go_ret
      exact ⟨rfl, rfl⟩
  · rw [decide_eq_false (show ¬ (lo ≤ x ∧ x ≤ hi) from fun h => h1 h.1)]
    go_enter Try.func21, Try.ntmps21
    go_wp2
    go_ret
    exact ⟨rfl, rfl⟩
theorem within_yes (lo x hi : Int) (w : World) (h : lo ≤ x ∧ x ≤ hi) : Calls Try.prog 21 #[.int .i64 lo, .int .i64 x, .int .i64 hi] w fun e w' => e = .returned (.bool true) ∧ w' = w := by
  have := within_any lo x hi w
  rwa [decide_eq_true h] at this
theorem within_no (lo x hi : Int) (w : World) (h : ¬ (lo ≤ x ∧ x ≤ hi)) : Calls Try.prog 21 #[.int .i64 lo, .int .i64 x, .int .i64 hi] w fun e w' => e = .returned (.bool false) ∧ w' = w := by
  have := within_any lo x hi w
  rwa [decide_eq_false h] at this
theorem rreq_any (c : Int) (w : World) : Calls Try.prog 22 #[.int .i64 c] w fun e w' => e = .returned (.bool (decide (Se.Rq c))) ∧ w' = w := by
  obtain ⟨b, hb⟩ : ∃ b, decide (Se.Rq c) = b := ⟨_, rfl⟩
  have HD : Hid (decide (1 ≤ c ∧ c ≤ 1099511627776) = b) := (show decide (1 ≤ c ∧ c ≤ 1099511627776) = decide (Se.Rq c) from decide_eq_decide.2 Iff.rfl).trans hb
  rw [hb]
  clear hb
  go_enter Try.func22, Try.ntmps22
  go_wp2_with fail
  refine (within_any _ _ _ _).mono ?_
  rintro e w' ⟨rfl, rfl⟩
  rw [HD.out]
  go_wp2
  go_ret
  exact ⟨rfl, rfl⟩
theorem rreq_yes (c : Int) (w : World) (h : Se.Rq c) : Calls Try.prog 22 #[.int .i64 c] w fun e w' => e = .returned (.bool true) ∧ w' = w := by
  have := rreq_any c w
  rwa [decide_eq_true h] at this
theorem rreq_no (c : Int) (w : World) (h : ¬ Se.Rq c) : Calls Try.prog 22 #[.int .i64 c] w fun e w' => e = .returned (.bool false) ∧ w' = w := by
  have := rreq_any c w
  rwa [decide_eq_false h] at this
abbrev BS (x : Sea) : Obj := .cells #[.int .i64 x.1, .int .i64 x.2.1, .string x.2.2] 48
abbrev VS (x : Sea) : Value := .agg #[.int .i64 x.1, .int .i64 x.2.1, .string x.2.2]
theorem cell_older {w1 : World} {p : Nat} (hp : p < w1.heap.size) (o : Obj) (j : Nat) : (w1.alloc o).cell? ⟨p, j, none⟩ = w1.cell? ⟨p, j, none⟩ := ((Below.refl w1.heap.size w1).alloc (Nat.le_refl _) o).cell (p := ⟨p, j, none⟩) hp
theorem cell_lt {w : World} {b j : Nat} {v : Value} (h : w.cell? ⟨b, j, none⟩ = some v) : b < w.heap.size := by
  unfold World.cell? at h
  by_cases hb : b < w.heap.size
  · exact hb
  · rw [Array.getElem?_eq_none (by simpa using hb)] at h
    simp at h
theorem cell_next {w w' : World} {b j : Nat} {v : Value} (h : w.cell? ⟨b, j, none⟩ = some v) (hb : Below w.heap.size w w') (hl : b < w.heap.size) : w'.cell? ⟨b, j, none⟩ = some v := (hb.cell (p := ⟨b, j, none⟩) hl).trans h
theorem cell_step {w w' : World} {b j : Nat} {v : Value} (h : w.cell? ⟨b, j, none⟩ = some v) (hb : Below w.heap.size w w') : w'.cell? ⟨b, j, none⟩ = some v := cell_next h hb (cell_lt h)
theorem undrew {w w' : World} (h : Below w.drew.heap.size w.drew w') : Below w.heap.size w w' := ⟨h.os, h.tape, h.output, h.size, h.block⟩
theorem sea_cells {w wr : World} {b off k : Nat} {x : Sea} (h : Below w.heap.size w wr) (hB : b < w.heap.size) (hc : ∀ j u, (ES.cells x)[j]? = some u → w.cell? ⟨b, off + (k * ES.sz + j), none⟩ = some u) :
    wr.cell? ⟨b, off + k * 3, none⟩ = some (.int .i64 x.1) ∧ wr.cell? ⟨b, off + k * 3 + 1, none⟩ = some (.int .i64 x.2.1) ∧ wr.cell? ⟨b, off + k * 3 + 2, none⟩ = some (.string x.2.2) := by
  have a := fun j u hj => (h.cell (p := ⟨b, off + (k * ES.sz + j), none⟩) hB).trans (hc j u hj)
  exact ⟨a 0 _ rfl, a 1 _ rfl, a 2 _ rfl⟩
theorem sea_of {w : World} {A : Nat} {x : Sea} (h : w.heap[A]? = some (BS x)) :
    (w.cell? ⟨A, 0, none⟩ = some (.int .i64 x.1) ∧ w.cell? ⟨A, 1, none⟩ = some (.int .i64 x.2.1) ∧ w.cell? ⟨A, 2, none⟩ = some (.string x.2.2)) ∧ ∀ j, w.frozen? ⟨A, j, none⟩ = false := by
  refine ⟨⟨?_, ?_, ?_⟩, fun j => ?_⟩ <;> simp [World.cell?, World.frozen?, h]
/-- What a slice that stands for a list gives a loop over it. -/
abbrev Over (w : World) (ao : Option Addr) (l : List Sea) : Prop := ∀ i x, l[i]? = some x → ∃ b off, ao = some ⟨b, off, none⟩ ∧ True ∧ b < w.heap.size ∧ ∀ k u, (ES.cells x)[k]? = some u → w.cell? ⟨b, off + (i * ES.sz + k), none⟩ = some u
set_option maxHeartbeats 2000000 in
theorem check_any (v : Value) (l : List Sea) (w : World) (hv : AtW ES w v l) :
    Calls Try.prog 11 #[v] w fun e w' => e = .returned (.int .i64 (if Se.ok l = true then 0 else 4)) ∧ Below w.heap.size w w' := by
  obtain ⟨ao, cap, rfl, hm, hx⟩ := hv.open
  clear hv
  unfold maxLen at hm
  obtain ⟨n, hn⟩ : ∃ n, l.length = n := ⟨_, rfl⟩
  rw [hn] at hm ⊢
  have HN : Hid (l.length = n) := hn
  have HX : Hid (Over w ao l) := hx
  obtain ⟨r, hr⟩ : ∃ r, (if Se.ok l = true then (0 : Int) else 4) = r := ⟨_, rfl⟩
  rw [hr]
  have HR : Hid ((if Se.ok l = true then (0 : Int) else 4) = r) := hr
  clear hn hx hr
  by_cases h6 : n ≤ 6
  · have h6' : (n : Int) ≤ 6 := by omega
    have HOK : Hid (Se.ok l = Se.right 0 l) := by show Se.ok l = Se.right 0 l; unfold Se.ok; rw [decide_eq_true (by rw [HN.out]; exact h6), Bool.true_and]
    go_enter Try.func11, Try.ntmps11
    go_wp2
    go_loopw [3, 11] (fun t i wr => ∃ (k : Nat) (t' : Int), k ≤ n ∧ i = .int .i64 k ∧ t = .int .i64 t' ∧ 0 ≤ t' ∧ Hid (Se.right 0 l = Se.right t' (l.drop k)) ∧ Hid (Below w.heap.size w wr)) (fun _ i _ => n - (intOf i).toNat)
    case atStart => exact ⟨0, 0, Nat.zero_le _, rfl, rfl, Int.le_refl _, rfl, Below.refl _ _⟩
    case round =>
      obtain ⟨k, t, hk, rfl, rfl, ht0, HP, HB⟩ := hrel
      have hsz := HB.out.size
      by_cases hlt : k < n
      · obtain ⟨x, hxk⟩ : ∃ x, l[k]? = some x := ⟨_, List.getElem?_eq_getElem (by rw [HN.out]; exact hlt)⟩
        have HXK : Hid (l[k]? = some x) := hxk
        obtain ⟨b, off, rfl, -, hB, hc⟩ := HX.out k x hxk
        obtain ⟨c0, c1, c2⟩ := sea_cells HB.out hB hc
        clear hc hxk
        have hlt' : (k : Int) < (n : Int) := by omega
        have HNO : Hid (¬ Se.good t x → r = 4) := fun hg => by
          have := HR.out
          rw [HOK.out, HP.out, Se.right_no HXK.out hg] at this
          exact this.symm
        have HYES : Hid (Se.good t x → Se.right 0 l = Se.right (x.1 + 1) (l.drop (k + 1))) := fun hg => HP.out.trans (Se.right_yes HXK.out hg)
        by_cases g1 : t ≤ x.1 ∧ x.1 ≤ 1099511627776
        · have G1 : Hid (t ≤ x.1 ∧ x.1 ≤ 1099511627776) := g1
          by_cases g2 : Se.Rq x.2.1
          · have G2 : Hid (Se.Rq x.2.1) := g2
            by_cases g3 : x.2.2.size ≤ 8192
            · have hle := g1.2
              have HY : Hid (Se.right 0 l = Se.right (x.1 + 1) (l.drop (k + 1))) := HYES.out ⟨g1, g2, g3⟩
              have hge : 0 ≤ x.1 := by omega
              have g3' : ¬ (8192 : Int) < (x.2.2.size : Int) := by omega
              clear g1 g2
              go_wp2_with fail
              refine (within_yes _ _ _ _ G1.out).mono ?_
              rintro e w' ⟨rfl, rfl⟩
              go_wp2_with fail
              refine (rreq_yes _ _ G2.out).mono ?_
              rintro e w' ⟨rfl, rfl⟩
              go_wp2
              go_roundw
              case rel => exact ⟨k + 1, x.1 + 1, by omega, by go_num, by go_num, by omega, HY, HB.out.alloc hsz _⟩
              case measure => simp [intOf]; omega
            · have H : Hid (r = 4) := HNO.out fun h => g3 h.2.2
              have g3' : (8192 : Int) < (x.2.2.size : Int) := by omega
              clear g1 g2
              go_wp2_with fail
              refine (within_yes _ _ _ _ G1.out).mono ?_
              rintro e w' ⟨rfl, rfl⟩
              go_wp2_with fail
              refine (rreq_yes _ _ G2.out).mono ?_
              rintro e w' ⟨rfl, rfl⟩
              go_wp2
              go_ret
              rw [H.out]
              exact ⟨rfl, HB.out.alloc hsz _⟩
          · have H : Hid (r = 4) := HNO.out fun h => g2 h.2.1
            have G2 : Hid (¬ Se.Rq x.2.1) := g2
            clear g1 g2
            go_wp2_with fail
            refine (within_yes _ _ _ _ G1.out).mono ?_
            rintro e w' ⟨rfl, rfl⟩
            go_wp2_with fail
            refine (rreq_no _ _ G2.out).mono ?_
            rintro e w' ⟨rfl, rfl⟩
            go_wp2
            go_ret
            rw [H.out]
            exact ⟨rfl, HB.out.alloc hsz _⟩
        · have H : Hid (r = 4) := HNO.out fun h => g1 h.1
          have G1 : Hid (¬ (t ≤ x.1 ∧ x.1 ≤ 1099511627776)) := g1
          clear g1
          go_wp2_with fail
          refine (within_no _ _ _ _ G1.out).mono ?_
          rintro e w' ⟨rfl, rfl⟩
          go_wp2
          go_ret
          rw [H.out]
          exact ⟨rfl, HB.out.alloc hsz _⟩
      · obtain rfl : k = n := by omega
        have H : Hid (r = 0) := by
          have := HR.out
          rw [HOK.out, HP.out, Se.right_end HN.out.symm, if_pos rfl] at this
          exact this.symm
        go_wp2
        go_ret
        rw [H.out]
        exact ⟨rfl, HB.out⟩
  · have h6' : 6 < (n : Int) := by omega
    have H : Hid (r = 4) := by
      have := HR.out
      unfold Se.ok at this
      rw [decide_eq_false (by rw [HN.out]; exact h6), Bool.false_and] at this
      exact this.symm
    go_enter Try.func11, Try.ntmps11
    go_wp2
    go_ret
    rw [H.out]
    exact ⟨rfl, Below.refl _ _⟩
theorem refuse_any (v : Value) (l : List Sea) (c : Int) (w : World) (hv : AtW ES w v l) :
    Calls Try.prog 19 #[v, .int .i64 c] w fun e w' => e = .returned (.int .i64 (Se.cErr l c)) ∧ Below w.heap.size w w' := by
  have HV : Hid (AtW ES w v l) := hv
  clear hv
  rcases Se.cErr_or l c with ⟨ha, hr, hc⟩ | ⟨ha, hr, hc⟩ | ⟨ha, hr⟩
  · have HE : Hid ((if Se.ok l = true then (0 : Int) else 4) = 0) := by show (if Se.ok l = true then (0 : Int) else 4) = 0; rw [hr]; rfl
    have HC : Hid (0 ≤ c ∧ c ≤ 1099511627776) := hc
    rw [ha]
    clear ha hr hc
    go_enter Try.func19, Try.ntmps19
    go_wp2_with fail
    refine (check_any v l _ HV.out).mono ?_
    rintro e w1 ⟨rfl, hb⟩
    rw [HE.out]
    go_wp2_with fail
    refine (within_yes _ _ _ _ HC.out).mono ?_
    rintro e w' ⟨rfl, rfl⟩
    go_wp2
    go_ret
    exact ⟨rfl, hb⟩
  · have HE : Hid ((if Se.ok l = true then (0 : Int) else 4) = 0) := by show (if Se.ok l = true then (0 : Int) else 4) = 0; rw [hr]; rfl
    have HC : Hid (¬ (0 ≤ c ∧ c ≤ 1099511627776)) := hc
    rw [ha]
    clear ha hr hc
    go_enter Try.func19, Try.ntmps19
    go_wp2_with fail
    refine (check_any v l _ HV.out).mono ?_
    rintro e w1 ⟨rfl, hb⟩
    rw [HE.out]
    go_wp2_with fail
    refine (within_no _ _ _ _ HC.out).mono ?_
    rintro e w' ⟨rfl, rfl⟩
    go_wp2
    go_ret
    exact ⟨rfl, hb⟩
  · have HE : Hid ((if Se.ok l = true then (0 : Int) else 4) = 4) := by show (if Se.ok l = true then (0 : Int) else 4) = 4; rw [hr]; rfl
    rw [ha]
    clear ha hr
    go_enter Try.func19, Try.ntmps19
    go_wp2_with fail
    refine (check_any v l _ HV.out).mono ?_
    rintro e w1 ⟨rfl, hb⟩
    rw [HE.out]
    go_wp2
    go_ret
    exact ⟨rfl, hb⟩
theorem refuseReq_any (v : Value) (l : List Sea) (c r : Int) (w : World) (hv : AtW ES w v l) :
    Calls Try.prog 17 #[v, .int .i64 c, .int .i64 r] w fun e w' => e = .returned (.int .i64 (Se.rErr l c r)) ∧ Below w.heap.size w w' := by
  have HV : Hid (AtW ES w v l) := hv
  clear hv
  rcases Se.rErr_or l c r with ⟨ha, hr, -, -, hq⟩ | ⟨ha, hr, -, -, hq⟩ | ⟨ha, hr⟩
  · have HE : Hid (Se.cErr l c = 0) := hr
    have HQ : Hid (Se.Rq r) := hq
    rw [ha]
    clear ha hr hq
    go_enter Try.func17, Try.ntmps17
    go_wp2_with fail
    refine (refuse_any v l c _ HV.out).mono ?_
    rintro e w1 ⟨rfl, hb⟩
    rw [HE.out]
    go_wp2_with fail
    refine (rreq_yes _ _ HQ.out).mono ?_
    rintro e w' ⟨rfl, rfl⟩
    go_wp2
    go_ret
    exact ⟨rfl, hb⟩
  · have HE : Hid (Se.cErr l c = 0) := hr
    have HQ : Hid (¬ Se.Rq r) := hq
    rw [ha]
    clear ha hr hq
    go_enter Try.func17, Try.ntmps17
    go_wp2_with fail
    refine (refuse_any v l c _ HV.out).mono ?_
    rintro e w1 ⟨rfl, hb⟩
    rw [HE.out]
    go_wp2_with fail
    refine (rreq_no _ _ HQ.out).mono ?_
    rintro e w' ⟨rfl, rfl⟩
    go_wp2
    go_ret
    exact ⟨rfl, hb⟩
  · obtain ⟨a, haa⟩ : ∃ a, Se.cErr l c = a := ⟨_, rfl⟩
    have HE : Hid (Se.cErr l c = a) := haa
    rw [haa] at ha hr
    rw [ha]
    have hne : (a == 0) = false := beq_eq_false_iff_ne.2 hr
    clear ha hr haa
    go_enter Try.func17, Try.ntmps17
    go_wp2_with fail
    refine (refuse_any v l c _ HV.out).mono ?_
    rintro e w1 ⟨rfl, hb⟩
    rw [HE.out]
    go_wp2
    go_ret
    exact ⟨rfl, hb⟩
end Go.Proofs.Ytaojdndhhgmdmaa
