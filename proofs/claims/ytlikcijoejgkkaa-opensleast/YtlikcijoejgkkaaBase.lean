/-
  opens.within, rightClient, rightOf, Check, refuse; sextonref10.To, sextonref12.Right, asked: what they answer.
-/
import Derived.Test.YtlikcijoejgkkaaRows
import Derived.Test.YtlikcijoejgkkaaPlain
import Derived.Test.YtlikcijoejgkkaaRow
import Derived.WalkKit
import Derived.WalkSpells
import Derived.WalkLawsBesides
import Derived.ProofKit
import Derived.BigQuiet
import Derived.Deep.QuietTactic
import Derived.Deep.RegionHeld3
import Derived.Deep.SlicePairs
namespace Go.Proofs.Ytlikcijoejgkkaa
open Go.ChangeShapes Go.WideShapes Go.ChangeAt Go.RowKit Go.Deep
theorem laidOut : laidOutB Try.prog = true := by kernel_rfl
theorem own : ownKnob Try.prog.godebug = none := by kernel_rfl
theorem infoO : (Try.prog.info? 27).map (fun i => (i.zero, i.size, i.bytes)) = some (some (.agg #[.int .i64 0, .int .i64 0, .int .i64 0, .int .i64 0]), 4, 32) := by kernel_rfl
theorem info_parts {P : Program} {e : TypeId} {z : Value} {n b : Nat} (h : (P.info? e).map (fun i => (i.zero, i.size, i.bytes)) = some (some z, n, b)) : ∃ i, P.info? e = some i ∧ i.zero = some z ∧ i.size = n ∧ i.bytes = b := by
  cases hi : P.info? e with
  | none => rw [hi] at h; cases h
  | some i =>
    rw [hi] at h
    simp at h
    exact ⟨i, rfl, h.1, h.2.1, h.2.2⟩
theorem within_any (lo x hi : Int) (w : World) : Calls Try.prog 22 #[.int .i64 lo, .int .i64 x, .int .i64 hi] w fun e w' => e = .returned (.bool (decide (lo ≤ x ∧ x ≤ hi))) ∧ w' = w := by
  by_cases h1 : lo ≤ x
  · by_cases h2 : x ≤ hi
    · rw [decide_eq_true (show lo ≤ x ∧ x ≤ hi from ⟨h1, h2⟩)]
      go_enter Try.func22, Try.ntmps22
      go_wp2
      go_ret
      exact ⟨rfl, rfl⟩
    · rw [decide_eq_false (show ¬ (lo ≤ x ∧ x ≤ hi) from fun h => h2 h.2)]
      go_enter Try.func22, Try.ntmps22
      go_wp2
      go_ret
      exact ⟨rfl, rfl⟩
  · rw [decide_eq_false (show ¬ (lo ≤ x ∧ x ≤ hi) from fun h => h1 h.1)]
    go_enter Try.func22, Try.ntmps22
    go_wp2
    go_ret
    exact ⟨rfl, rfl⟩
theorem within_yes (lo x hi : Int) (w : World) (h : lo ≤ x ∧ x ≤ hi) : Calls Try.prog 22 #[.int .i64 lo, .int .i64 x, .int .i64 hi] w fun e w' => e = .returned (.bool true) ∧ w' = w := by
  have := within_any lo x hi w
  rwa [decide_eq_true h] at this
theorem within_no (lo x hi : Int) (w : World) (h : ¬ (lo ≤ x ∧ x ≤ hi)) : Calls Try.prog 22 #[.int .i64 lo, .int .i64 x, .int .i64 hi] w fun e w' => e = .returned (.bool false) ∧ w' = w := by
  have := within_any lo x hi w
  rwa [decide_eq_false h] at this
theorem rclient_any (c : Int) (w : World) : Calls Try.prog 23 #[.int .i64 c] w fun e w' => e = .returned (.bool (decide (Op.Cl c))) ∧ w' = w := by
  obtain ⟨b, hb⟩ : ∃ b, decide (Op.Cl c) = b := ⟨_, rfl⟩
  have HD : Hid (decide (0 ≤ c ∧ c ≤ 1099511627776) = b) := (show decide (0 ≤ c ∧ c ≤ 1099511627776) = decide (Op.Cl c) from decide_eq_decide.2 Iff.rfl).trans hb
  rw [hb]
  clear hb
  go_enter Try.func23, Try.ntmps23
  go_wp2_with fail
  refine (within_any _ _ _ _).mono ?_
  rintro e w' ⟨rfl, rfl⟩
  rw [HD.out]
  go_wp2
  go_ret
  exact ⟨rfl, rfl⟩
theorem rclient_yes (c : Int) (w : World) (h : Op.Cl c) : Calls Try.prog 23 #[.int .i64 c] w fun e w' => e = .returned (.bool true) ∧ w' = w := by
  have := rclient_any c w
  rwa [decide_eq_true h] at this
theorem rclient_no (c : Int) (w : World) (h : ¬ Op.Cl c) : Calls Try.prog 23 #[.int .i64 c] w fun e w' => e = .returned (.bool false) ∧ w' = w := by
  have := rclient_any c w
  rwa [decide_eq_false h] at this
abbrev BH (no gen : Int) : Obj := .cells #[.int .i64 no, .int .i64 gen] 24
abbrev VH (no gen : Int) : Value := .agg #[.int .i64 no, .int .i64 gen]
theorem rof_any (no gen : Int) (w : World) : Calls Try.prog 24 #[VH no gen] w fun e w' => e = .returned (.bool (decide (Ho no gen))) ∧ w' = w.alloc (BH no gen) := by
  by_cases h1 : 0 ≤ no ∧ no ≤ 23
  · have H : Hid (0 ≤ no ∧ no ≤ 23) := h1
    obtain ⟨b, hb⟩ : ∃ b, decide (Ho no gen) = b := ⟨_, rfl⟩
    have HD : Hid (decide (1 ≤ gen ∧ gen ≤ 1099511627776) = b) := (show decide (1 ≤ gen ∧ gen ≤ 1099511627776) = decide (Ho no gen) from decide_eq_decide.2 ⟨fun h => ⟨h1, h⟩, fun h => h.2⟩).trans hb
    rw [hb]
    clear h1 hb
    go_enter Try.func24, Try.ntmps24
    go_wp2_with fail
    refine (within_yes _ _ _ _ H.out).mono ?_
    rintro e w' ⟨rfl, rfl⟩
    go_wp2_with fail
    refine (within_any _ _ _ _).mono ?_
    rintro e w' ⟨rfl, rfl⟩
    rw [HD.out]
    go_wp2
    go_ret
    exact ⟨rfl, rfl⟩
  · rw [decide_eq_false (show ¬ Ho no gen from fun h => h1 h.1)]
    have H : Hid (¬ (0 ≤ no ∧ no ≤ 23)) := h1
    clear h1
    go_enter Try.func24, Try.ntmps24
    go_wp2_with fail
    refine (within_no _ _ _ _ H.out).mono ?_
    rintro e w' ⟨rfl, rfl⟩
    go_wp2
    go_ret
    exact ⟨rfl, rfl⟩
theorem rof_yes (no gen : Int) (w : World) (h : Ho no gen) : Calls Try.prog 24 #[VH no gen] w fun e w' => e = .returned (.bool true) ∧ w' = w.alloc (BH no gen) := by
  have := rof_any no gen w
  rwa [decide_eq_true h] at this
theorem rof_no (no gen : Int) (w : World) (h : ¬ Ho no gen) : Calls Try.prog 24 #[VH no gen] w fun e w' => e = .returned (.bool false) ∧ w' = w.alloc (BH no gen) := by
  have := rof_any no gen w
  rwa [decide_eq_false h] at this
abbrev BO (x : Opn) : Obj := .cells #[.int .i64 x.1, .int .i64 x.2.1, .int .i64 x.2.2.1, .int .i64 x.2.2.2] 27
abbrev VO (x : Opn) : Value := .agg #[.int .i64 x.1, .int .i64 x.2.1, .int .i64 x.2.2.1, .int .i64 x.2.2.2]
theorem eql_opn (w : World) (y x : Opn) : (binOp .eql 27 (VO y) (VO x)).run Try.prog w = .ok (.bool (decide (y = x))) w := by
  obtain ⟨y0, y1, y2, y3⟩ := y
  obtain ⟨x0, x1, x2, x3⟩ := x
  have e : decide ((y0, y1, y2, y3) = (x0, x1, x2, x3)) = ((y0 == x0) && ((y1 == x1) && ((y2 == x2) && (y3 == x3)))) := by
    rw [Bool.eq_iff_iff]
    simp
  rw [e]
  cases h0 : (y0 == x0) <;> cases h1 : (y1 == x1) <;> cases h2 : (y2 == x2) <;> cases h3 : (y3 == x3) <;> go_simp <;> simp [h0, h1, h2, h3]
theorem eql_hand (w : World) (a b c d : Int) : (binOp .eql 24 (VH a b) (VH c d)).run Try.prog w = .ok (.bool (a == c && b == d)) w := by
  cases h0 : (a == c) <;> cases h1 : (b == d) <;> go_simp <;> simp [h0, h1]
theorem cell_older {w1 : World} {p : Nat} (hp : p < w1.heap.size) (o : Obj) (j : Nat) : (w1.alloc o).cell? ⟨p, j, none⟩ = w1.cell? ⟨p, j, none⟩ := ((Below.refl w1.heap.size w1).alloc (Nat.le_refl _) o).cell (p := ⟨p, j, none⟩) hp
theorem opn_cells {w wr : World} {b off k : Nat} {x : Opn} (h : Below w.heap.size w wr) (hB : b < w.heap.size) (hc : ∀ j u, (EO.cells x)[j]? = some u → w.cell? ⟨b, off + (k * EO.sz + j), none⟩ = some u) :
    wr.cell? ⟨b, off + k * 4, none⟩ = some (.int .i64 x.1) ∧ wr.cell? ⟨b, off + k * 4 + 1, none⟩ = some (.int .i64 x.2.1) ∧ wr.cell? ⟨b, off + k * 4 + 2, none⟩ = some (.int .i64 x.2.2.1) ∧ wr.cell? ⟨b, off + k * 4 + 3, none⟩ = some (.int .i64 x.2.2.2) := by
  have a := fun j u hj => (h.cell (p := ⟨b, off + (k * EO.sz + j), none⟩) hB).trans (hc j u hj)
  exact ⟨a 0 _ rfl, a 1 _ rfl, a 2 _ rfl, a 3 _ rfl⟩
theorem opn_of {w : World} {A : Nat} {x : Opn} (h : w.heap[A]? = some (BO x)) :
    (w.cell? ⟨A, 0, none⟩ = some (.int .i64 x.1) ∧ w.cell? ⟨A, 1, none⟩ = some (.int .i64 x.2.1) ∧ w.cell? ⟨A, 2, none⟩ = some (.int .i64 x.2.2.1) ∧ w.cell? ⟨A, 3, none⟩ = some (.int .i64 x.2.2.2)) ∧ ∀ j, w.frozen? ⟨A, j, none⟩ = false := by
  refine ⟨⟨?_, ?_, ?_, ?_⟩, fun j => ?_⟩ <;> simp [World.cell?, World.frozen?, h]
/-- What a slice that stands for a list gives a loop over it. -/
abbrev Over (w : World) (ao : Option Addr) (l : List Opn) : Prop := ∀ i x, l[i]? = some x → ∃ b off, ao = some ⟨b, off, none⟩ ∧ True ∧ b < w.heap.size ∧ ∀ k u, (EO.cells x)[k]? = some u → w.cell? ⟨b, off + (i * EO.sz + k), none⟩ = some u
set_option maxHeartbeats 2000000 in
theorem check_any (v : Value) (l : List Opn) (w : World) (hv : AtW EO w v l) :
    Calls Try.prog 8 #[v] w fun e w' => e = .returned (.int .i64 (if Op.right 0 l = true then 0 else 4)) ∧ Below w.heap.size w w' := by
  obtain ⟨ao, cap, rfl, hm, hx⟩ := hv.open
  clear hv
  unfold maxLen at hm
  obtain ⟨n, hn⟩ : ∃ n, l.length = n := ⟨_, rfl⟩
  rw [hn] at hm ⊢
  have HN : Hid (l.length = n) := hn
  have HX : Hid (Over w ao l) := hx
  obtain ⟨r, hr⟩ : ∃ r, (if Op.right 0 l = true then (0 : Int) else 4) = r := ⟨_, rfl⟩
  rw [hr]
  have HR : Hid ((if Op.right 0 l = true then (0 : Int) else 4) = r) := hr
  clear hn hx hr
  go_enter Try.func8, Try.ntmps8
  go_wp2
  go_loopw [3, 8] (fun t i wr => ∃ (k : Nat) (t' : Int), k ≤ n ∧ i = .int .i64 k ∧ t = .int .i64 t' ∧ 0 ≤ t' ∧ Hid (Op.right 0 l = Op.right t' (l.drop k)) ∧ Hid (Below w.heap.size w wr)) (fun _ i _ => n - (intOf i).toNat)
  case atStart => exact ⟨0, 0, Nat.zero_le _, rfl, rfl, Int.le_refl _, rfl, Below.refl _ _⟩
  case round =>
    obtain ⟨k, t, hk, rfl, rfl, ht0, HP, HB⟩ := hrel
    have hsz := HB.out.size
    by_cases hlt : k < n
    · obtain ⟨x, hxk⟩ : ∃ x, l[k]? = some x := ⟨_, List.getElem?_eq_getElem (by rw [HN.out]; exact hlt)⟩
      have HXK : Hid (l[k]? = some x) := hxk
      obtain ⟨b, off, rfl, -, hB, hc⟩ := HX.out k x hxk
      obtain ⟨c0, c1, c2, c3⟩ := opn_cells HB.out hB hc
      clear hc hxk
      have hlt' : (k : Int) < (n : Int) := by omega
      have HNO : Hid (¬ Op.good t x → r = 4) := fun hg => by
        have := HR.out
        rw [HP.out, Op.right_no HXK.out hg] at this
        exact this.symm
      have HYES : Hid (Op.good t x → Op.right 0 l = Op.right (x.1 + 1) (l.drop (k + 1))) := fun hg => HP.out.trans (Op.right_yes HXK.out hg)
      by_cases g1 : t ≤ x.1 ∧ x.1 ≤ 15
      · have G1 : Hid (t ≤ x.1 ∧ x.1 ≤ 15) := g1
        by_cases g2 : Op.Cl x.2.1
        · have G2 : Hid (Op.Cl x.2.1) := g2
          by_cases g3 : Ho x.2.2.1 x.2.2.2
          · have G3 : Hid (Ho x.2.2.1 x.2.2.2) := g3
            have hle := g1.2
            have HY : Hid (Op.right 0 l = Op.right (x.1 + 1) (l.drop (k + 1))) := HYES.out ⟨g1, g2, g3⟩
            have hge : 0 ≤ x.1 := by omega
            clear g1 g2 g3
            go_wp2_with fail
            refine (within_yes _ _ _ _ G1.out).mono ?_
            rintro e w' ⟨rfl, rfl⟩
            go_wp2_with fail
            refine (rclient_yes _ _ G2.out).mono ?_
            rintro e w' ⟨rfl, rfl⟩
            go_wp2_with fail
            refine (rof_yes _ _ _ G3.out).mono ?_
            rintro e w' ⟨rfl, rfl⟩
            go_wp2
            go_roundw
            case rel => exact ⟨k + 1, x.1 + 1, by omega, by go_num, by go_num, by omega, HY, (HB.out.alloc hsz _).alloc (by simp; omega) _⟩
            case measure => simp [intOf]; omega
          · have H : Hid (r = 4) := HNO.out fun h => g3 h.2.2
            have G3 : Hid (¬ Ho x.2.2.1 x.2.2.2) := g3
            clear g1 g2 g3
            go_wp2_with fail
            refine (within_yes _ _ _ _ G1.out).mono ?_
            rintro e w' ⟨rfl, rfl⟩
            go_wp2_with fail
            refine (rclient_yes _ _ G2.out).mono ?_
            rintro e w' ⟨rfl, rfl⟩
            go_wp2_with fail
            refine (rof_no _ _ _ G3.out).mono ?_
            rintro e w' ⟨rfl, rfl⟩
            go_wp2
            go_ret
            rw [H.out]
            exact ⟨rfl, (HB.out.alloc hsz _).alloc (by simp; omega) _⟩
        · have H : Hid (r = 4) := HNO.out fun h => g2 h.2.1
          have G2 : Hid (¬ Op.Cl x.2.1) := g2
          clear g1 g2
          go_wp2_with fail
          refine (within_yes _ _ _ _ G1.out).mono ?_
          rintro e w' ⟨rfl, rfl⟩
          go_wp2_with fail
          refine (rclient_no _ _ G2.out).mono ?_
          rintro e w' ⟨rfl, rfl⟩
          go_wp2
          go_ret
          rw [H.out]
          exact ⟨rfl, HB.out.alloc hsz _⟩
      · have H : Hid (r = 4) := HNO.out fun h => g1 h.1
        have G1 : Hid (¬ (t ≤ x.1 ∧ x.1 ≤ 15)) := g1
        clear g1
        go_wp2_with fail
        refine (within_no _ _ _ _ G1.out).mono ?_
        rintro e w' ⟨rfl, rfl⟩
        go_wp2
        go_ret
        rw [H.out]
        exact ⟨rfl, HB.out.alloc hsz _⟩
    · obtain rfl : k = n := by omega
      have H : Hid (r = 0) := by
        have := HR.out
        rw [HP.out, Op.right_end HN.out.symm, if_pos rfl] at this
        exact this.symm
      go_wp2
      go_ret
      rw [H.out]
      exact ⟨rfl, HB.out⟩
end Go.Proofs.Ytlikcijoejgkkaa
