/-
  For any slice of steps sextonlaw03.AlarmOnce returns true, whatever the memory: each alarm that was set is told once, at the first Due that reaches its moment. No condition.
-/
import Derived.Test.YtpfnlciacbfcgaaOnceA
import Derived.Deep.QuietTactic
import Derived.BigQuiet
namespace Go.Proofs.Ytpfnlciacbfcgaa
open Go.ChangeShapes Go.WideShapes Go.ChangeAt Go.RowKit Go.Maps Go.Deep

abbrev Z53 : Obj := .cells #[.bool false, .bool false, .bool false, .bool false, .bool false, .bool false, .bool false, .bool false, .bool false, .bool false, .bool false, .bool false, .bool false, .bool false, .bool false, .bool false, .bool false, .bool false, .bool false, .bool false] 53
abbrev Z54 : Obj := .cells #[.int .i64 0, .int .i64 0, .int .i64 0, .int .i64 0, .int .i64 0, .int .i64 0, .int .i64 0, .int .i64 0, .int .i64 0, .int .i64 0, .int .i64 0, .int .i64 0, .int .i64 0, .int .i64 0, .int .i64 0, .int .i64 0, .int .i64 0, .int .i64 0, .int .i64 0, .int .i64 0] 54
theorem arr_new (w : World) (v : Value) (T : TypeId) (cur : Array Value) (h : cur = Array.replicate 20 v) : ArrAt (w.alloc (.cells cur T)) w.heap.size T (fun _ => v) := by
  subst h
  refine ⟨_, heap_alloc_new _ _, fun i hi => ?_⟩
  simp [hi]
theorem arrs_start (w : World) : ArrAt ((w.alloc Z53).alloc Z54) w.heap.size 53 (fun _ => .bool false) ∧ ArrAt ((w.alloc Z53).alloc Z54) (w.heap.size + 1) 54 (fun _ => .int .i64 0) := by
  constructor
  · exact (arr_new w (.bool false) 53 _ rfl).kept (World.grownBy_alloc _ _ none) (by simp)
  · have := arr_new (w.alloc Z53) (.int .i64 0) 54 _ rfl
    rw [World.size_alloc] at this
    exact this

set_option maxHeartbeats 4000000 in
set_option maxRecDepth 100000 in
theorem once_some (b off cap : Nat) (l : List (Int × Int × Int)) (w : World) (hB : b < w.heap.size) (hp : 0 < l.length) (hlc : l.length ≤ cap) (_hm : cap ≤ maxLen) (h600 : l.length ≤ 600)
    (hx : ∀ i, i < l.length → w.cell? ⟨b, off + i * 3, none⟩ = some (.int .i64 (l.getD i (0, 0, 0)).1) ∧ w.cell? ⟨b, off + i * 3 + 1, none⟩ = some (.int .i64 (l.getD i (0, 0, 0)).2.1) ∧ w.cell? ⟨b, off + i * 3 + 2, none⟩ = some (.int .i64 (l.getD i (0, 0, 0)).2.2)) :
    Calls Try.prog 4 #[.slice (some ⟨b, off, none⟩) l.length cap] w fun e w' => e = .returned (.bool true) ∧ Below w.heap.size w w' := by
  unfold maxLen at _hm
  obtain ⟨n, hn⟩ : ∃ n, l.length = n := ⟨_, rfl⟩
  rw [hn] at hp hlc hx h600 ⊢
  have HX : Hid (∀ i, i < n → w.cell? ⟨b, off + i * 3, none⟩ = some (.int .i64 (l.getD i (0, 0, 0)).1) ∧ w.cell? ⟨b, off + i * 3 + 1, none⟩ = some (.int .i64 (l.getD i (0, 0, 0)).2.1) ∧ w.cell? ⟨b, off + i * 3 + 2, none⟩ = some (.int .i64 (l.getD i (0, 0, 0)).2.2)) := hx
  have h6' : ¬ ((600 : Int) < (n : Int)) := by omega
  clear hn hx
  go_enter Try.func4, Try.ntmps4
  go_wp2_with fail
  refine (new_ex _).mono ?_
  rintro e w1 ⟨s, bm, rfl, hs, hbm, hk, hg⟩
  have HB1 : Hid (Below w.heap.size w w1) := below_none hg (Nat.le_refl _)
  have hS : w.heap.size ≤ s ∧ w.heap.size ≤ bm ∧ s < w1.heap.size ∧ bm < w1.heap.size ∧ w.heap.size ≤ w1.heap.size := ⟨hs, hbm, hk.lt.1, hk.lt.2.1, hg.size⟩
  have HK1 : Hid (ClockAt w1 s bm []) := hk
  clear hs hbm hk hg
  go_wp2
  have ga := grown_trans (World.grownBy_alloc w1 Z53 none) (World.grownBy_alloc (w1.alloc Z53) Z54 none)
  have HK2 : Hid (ClockAt ((w1.alloc Z53).alloc Z54) s bm []) := HK1.out.kept ga (by simp) (by simp)
  have HB2 : Hid (Below w.heap.size w ((w1.alloc Z53).alloc Z54)) := HB1.out.trans (below_none ga HB1.out.size)
  obtain ⟨hA4, hA5⟩ := arrs_start w1
  have HA : Hid (ArrAt ((w1.alloc Z53).alloc Z54) w1.heap.size 53 (fun _ => .bool false) ∧ ArrAt ((w1.alloc Z53).alloc Z54) (w1.heap.size + 1) 54 (fun _ => .int .i64 0)) := ⟨hA4, hA5⟩
  clear HK1 HB1 ga hA4 hA5
  obtain ⟨s1, s2, s3, s4, s5⟩ := hS
  generalize (w1.alloc Z53).alloc Z54 = w2 at HK2 HB2 HA ⊢
  generalize w1.heap.size = A at HA s3 s4 s5 ⊢
  go_loopw [32] (fun i wr => ∃ (k : Nat) (L : List (Int × Int)) (f : Nat → Bool) (t : Nat → Int), k ≤ n ∧ i = .int .i64 k ∧ Hid (ClockAt wr s bm L) ∧ Hid (ArrAt wr A 53 (fun i => .bool (f i))) ∧ Hid (ArrAt wr (A + 1) 54 (fun i => .int .i64 (t i))) ∧ Hid (Al.On L f t) ∧ Hid (Below w.heap.size w wr))
    (fun i _ => n - (intOf i).toNat)
  case atStart => exact ⟨0, [], _, _, Nat.zero_le _, rfl, HK2, HA.out.1, HA.out.2, Al.on_start, HB2⟩
  case round =>
    clear HK2 HB2 HA
    obtain ⟨k, L, f, t, hkn, rfl, HK, HA4, HA5, HO, HB⟩ := hrel
    by_cases hlt : k < n
    · obtain ⟨c0, c1, c2⟩ := HX.out k hlt
      rw [← HB.out.cell (p := ⟨b, off + k * 3, none⟩) hB] at c0
      rw [← HB.out.cell (p := ⟨b, off + k * 3 + 1, none⟩) hB] at c1
      rw [← HB.out.cell (p := ⟨b, off + k * 3 + 2, none⟩) hB] at c2
      generalize l.getD k (0, 0, 0) = st at c0 c1 c2
      obtain ⟨x0, x1, x2⟩ := st
      simp only at c0 c1 c2
      have ga := World.grownBy_alloc wr (.cells #[.int .i64 x0, .int .i64 x1, .int .i64 x2] 31) none
      have HKb : Hid (ClockAt (wr.alloc (.cells #[.int .i64 x0, .int .i64 x1, .int .i64 x2] 31)) s bm L) := HK.out.kept ga (by simp) (by simp)
      have HA4b : Hid (ArrAt (wr.alloc (.cells #[.int .i64 x0, .int .i64 x1, .int .i64 x2] 31)) A 53 (fun i => .bool (f i))) := HA4.out.kept ga (by simp)
      have HA5b : Hid (ArrAt (wr.alloc (.cells #[.int .i64 x0, .int .i64 x1, .int .i64 x2] 31)) (A + 1) 54 (fun i => .int .i64 (t i))) := HA5.out.kept ga (by simp)
      have HBb : Hid (Below w.heap.size w (wr.alloc (.cells #[.int .i64 x0, .int .i64 x1, .int .i64 x2] 31))) := HB.out.trans (below_none ga HB.out.size)
      have HBX : Hid ((wr.alloc (.cells #[.int .i64 x0, .int .i64 x1, .int .i64 x2] 31)).heap[wr.heap.size]? = some (.cells #[.int .i64 x0, .int .i64 x1, .int .i64 x2] 31 (0, 0))) := heap_alloc_new _ _
      have hAw := HA5.out.lt
      have hne1 : ¬ (A = wr.heap.size) := by omega
      have hne2 : ¬ (A + 1 = wr.heap.size) := by omega
      have hne3 : ¬ (wr.heap.size = bm) := by omega
      clear ga
      by_cases hx0 : x1 < 0
      · go_wp2
        go_roundw
        case rel => exact ⟨k + 1, L, f, t, by omega, by go_num, HKb, HA4b, HA5b, HO, HBb⟩
        case measure => simp [intOf]; omega
      by_cases hx19 : 19 < x1
      · go_wp2
        go_roundw
        case rel => exact ⟨k + 1, L, f, t, by omega, by go_num, HKb, HA4b, HA5b, HO, HBb⟩
        case measure => simp [intOf]; omega
      obtain ⟨q, rfl⟩ : ∃ q : Nat, x1 = (q : Int) := ⟨x1.toNat, by omega⟩
      have hq : q < 20 := by omega
      by_cases hw0 : x0 = 0
      · subst hw0
        go_wp2_with fail
        refine (set_any (n := (q : Int)) (a := x2) _ HKb.out).mono ?_
        rintro e w3 ⟨rfl, hk3, hg3⟩
        obtain ⟨b0, b1, b2⟩ := three_of ((hg3.block wr.heap.size (by simp) (by simpa using hne3)).trans HBX.out)
        have HA43 : Hid (ArrAt w3 A 53 (fun i => .bool (f i))) := HA4b.out.kept hg3 (by simp; omega)
        have HA53 : Hid (ArrAt w3 (A + 1) 54 (fun i => .int .i64 (t i))) := HA5b.out.kept hg3 (by simp; omega)
        have HB3 : Hid (Below w.heap.size w w3) := HBb.out.trans (below_clock hg3 s2 HBb.out.size)
        by_cases he : Al.setErr L (q : Int) x2 = 0
        · have HK3 : Hid (ClockAt w3 s bm (Al.set L (q : Int) x2)) := by
            have : ClockAt w3 s bm (Al.set L (q : Int) x2) := by unfold Al.setTo at hk3; rw [if_pos he] at hk3; exact hk3
            exact this
          rw [he]
          obtain ⟨d4, d4f⟩ := HA43.out.cell hq
          obtain ⟨d5, d5f⟩ := HA53.out.cell hq
          clear hk3 hg3 he
          go_wp2
          go_roundw
          case rel => exact ⟨k + 1, _, Al.upd f q true, Al.upd t q x2, by omega, by go_num, (HK3.out.kept (grown_setCell _ _ _ _) (by simp; omega) (by simp; omega)).kept (grown_setCell _ _ _ _) (by simp; omega) (by simp; omega), (HA43.out.put (fun j _ => by unfold Al.upd; split <;> rfl)).kept (grown_setCell _ _ _ _) (by simp), (HA53.out.kept (grown_setCell _ _ _ _) (by simp)).put (fun j _ => by unfold Al.upd; split <;> rfl), HO.out.put hq x2, (HB3.out.setCell (by simp; omega) _).setCell (by simp; omega) _⟩
          case measure => simp [intOf]; omega
        · have HK3 : Hid (ClockAt w3 s bm L) := by
            have : ClockAt w3 s bm L := by unfold Al.setTo at hk3; rw [if_neg he] at hk3; exact hk3
            exact this
          generalize Al.setErr L (q : Int) x2 = ee at he ⊢
          clear hk3 hg3
          go_wp2
          go_roundw
          case rel => exact ⟨k + 1, L, f, t, by omega, by go_num, HK3, HA43, HA53, HO, HB3⟩
          case measure => simp [intOf]; omega
      by_cases hw1 : x0 = 1
      · subst hw1
        go_wp2_with fail
        refine (set_any (n := (q : Int)) (a := x2) _ HKb.out).mono ?_
        rintro e w3 ⟨rfl, hk3, hg3⟩
        obtain ⟨b0, b1, b2⟩ := three_of ((hg3.block wr.heap.size (by simp) (by simpa using hne3)).trans HBX.out)
        have HA43 : Hid (ArrAt w3 A 53 (fun i => .bool (f i))) := HA4b.out.kept hg3 (by simp; omega)
        have HA53 : Hid (ArrAt w3 (A + 1) 54 (fun i => .int .i64 (t i))) := HA5b.out.kept hg3 (by simp; omega)
        have HB3 : Hid (Below w.heap.size w w3) := HBb.out.trans (below_clock hg3 s2 HBb.out.size)
        by_cases he : Al.setErr L (q : Int) x2 = 0
        · have HK3 : Hid (ClockAt w3 s bm (Al.set L (q : Int) x2)) := by
            have : ClockAt w3 s bm (Al.set L (q : Int) x2) := by unfold Al.setTo at hk3; rw [if_pos he] at hk3; exact hk3
            exact this
          rw [he]
          obtain ⟨d4, d4f⟩ := HA43.out.cell hq
          obtain ⟨d5, d5f⟩ := HA53.out.cell hq
          clear hk3 hg3 he
          go_wp2
          go_roundw
          case rel => exact ⟨k + 1, _, Al.upd f q true, Al.upd t q x2, by omega, by go_num, (HK3.out.kept (grown_setCell _ _ _ _) (by simp; omega) (by simp; omega)).kept (grown_setCell _ _ _ _) (by simp; omega) (by simp; omega), (HA43.out.put (fun j _ => by unfold Al.upd; split <;> rfl)).kept (grown_setCell _ _ _ _) (by simp), (HA53.out.kept (grown_setCell _ _ _ _) (by simp)).put (fun j _ => by unfold Al.upd; split <;> rfl), HO.out.put hq x2, (HB3.out.setCell (by simp; omega) _).setCell (by simp; omega) _⟩
          case measure => simp [intOf]; omega
        · have HK3 : Hid (ClockAt w3 s bm L) := by
            have : ClockAt w3 s bm L := by unfold Al.setTo at hk3; rw [if_neg he] at hk3; exact hk3
            exact this
          generalize Al.setErr L (q : Int) x2 = ee at he ⊢
          clear hk3 hg3
          go_wp2
          go_roundw
          case rel => exact ⟨k + 1, L, f, t, by omega, by go_num, HK3, HA43, HA53, HO, HB3⟩
          case measure => simp [intOf]; omega
      by_cases hw2 : x0 = 2
      · subst hw2
        have hfit : Al.fits (q : Int) := ⟨by omega, by omega⟩
        have HW : Hid (Al.stopWas L (q : Int) = f q) := (if_pos hfit).trans (HO.out.set q hq).symm
        have HE : Hid (Al.stopErr (q : Int) = 0) := if_pos hfit
        have HT : Hid (Al.stopTo L (q : Int) = Al.drop L (q : Int)) := if_pos hfit
        clear hfit
        go_wp2_with fail
        refine (stop_any (n := (q : Int)) _ HKb.out).mono ?_
        rintro e w3 ⟨rfl, hk3, hg3⟩
        obtain ⟨b0, b1, b2⟩ := three_of ((hg3.block wr.heap.size (by simp) (by simpa using hne3)).trans HBX.out)
        have HA43 : Hid (ArrAt w3 A 53 (fun i => .bool (f i))) := HA4b.out.kept hg3 (by simp; omega)
        have HA53 : Hid (ArrAt w3 (A + 1) 54 (fun i => .int .i64 (t i))) := HA5b.out.kept hg3 (by simp; omega)
        have HB3 : Hid (Below w.heap.size w w3) := HBb.out.trans (below_clock hg3 s2 HBb.out.size)
        rw [HT.out] at hk3
        have HK3 : Hid (ClockAt w3 s bm (Al.drop L (q : Int))) := hk3
        rw [HW.out, HE.out]
        obtain ⟨d4, d4f⟩ := HA43.out.cell hq
        clear hk3 hg3
        generalize hfq : f q = fq at d4 ⊢
        go_wp2
        go_roundw
        case rel => exact ⟨k + 1, _, Al.upd f q false, t, by omega, by go_num, HK3.out.kept (grown_setCell _ _ _ _) (by simp; omega) (by simp; omega), HA43.out.put (fun j _ => by unfold Al.upd; split <;> rfl), HA53.out.kept (grown_setCell _ _ _ _) (by simp), HO.out.off q, HB3.out.setCell (by simp; omega) _⟩
        case measure => simp [intOf]; omega
      by_cases hw3 : x0 = 3
      · subst hw3
        by_cases hfit : Al.fits x2
        · have HE : Hid (Al.dueErr x2 = 0) := if_pos hfit
          have HT : Hid (Al.dueTo L x2 = Al.rest L x2) := if_pos hfit
          have HU : Hid (Al.dueOf L x2 = Al.due L x2) := if_pos hfit
          clear hfit
          go_wp2_with fail
          refine (due_any (now := x2) _ HKb.out).mono ?_
          rintro e w3 ⟨v, rfl, hr3, hk3, hg3⟩
          rw [HU.out] at hr3
          rw [HT.out] at hk3
          rw [HE.out]
          have hbx := three_of ((hg3.block wr.heap.size (by simp) (by simpa using hne3)).trans HBX.out)
          have HA43 : Hid (ArrAt w3 A 53 (fun i => .bool (f i))) := HA4b.out.kept hg3 (by simp; omega)
          have HA53 : Hid (ArrAt w3 (A + 1) 54 (fun i => .int .i64 (t i))) := HA5b.out.kept hg3 (by simp; omega)
          have HB3 : Hid (Below w.heap.size w w3) := HBb.out.trans (below_clock hg3 s2 HBb.out.size)
          have HK3 : Hid (ClockAt w3 s bm (Al.rest L x2)) := hk3
          have HG : Hid (Al.Good L) := HK.out.2.1
          rw [World.size_alloc] at hr3
          obtain ⟨ao, cp, rfl⟩ := row_slice hr3
          clear hk3 hg3 HKb HA4b HA5b HBb HBX HK HA4 HA5 HB c0 c1 c2
          generalize wr.heap.size = X at hr3 hbx hne1 hne2 hne3 hAw ⊢
          have HBX3 : Hid (w3.cell? ⟨X, 0, none⟩ = some (.int .i64 3) ∧ w3.cell? ⟨X, 1, none⟩ = some (.int .i64 (q : Int)) ∧ w3.cell? ⟨X, 2, none⟩ = some (.int .i64 x2)) := hbx
          have HR3 : Hid (w3.ownsRow (X + 1) 3 1 (.slice ao (Al.due L x2).length cp) (Al.due L x2).length ((Al.due L x2).map (Value.int .i64))) := hr3
          obtain ⟨m, hm⟩ : ∃ m, (Al.due L x2).length = m := ⟨_, rfl⟩
          have hml : m ≤ 256 := by
            have h1 := HG.out.len
            have h2 : (Al.due L x2).length ≤ L.length := by unfold Al.due; rw [List.length_map]; exact List.length_filter_le _ _
            omega
          have HM : Hid ((Al.due L x2).length = m) := hm
          rw [hm] at HR3 ⊢
          clear hr3 hm hbx
          go_wp2
          go_loopw [99] (fun i wr => ∃ (j : Nat) (f' : Nat → Bool), j ≤ m ∧ i = .int .i64 j ∧ Hid (ArrAt wr A 53 (fun i => .bool (f' i))) ∧ Hid (∀ i : Nat, i < 20 → f' i = (f i && !((Al.due L x2).take j).contains (i : Int))) ∧ Hid (w3.grownBy wr (some A)))
            (fun i _ => m - (intOf i).toNat)
          case atStart => exact ⟨0, f, Nat.zero_le _, rfl, HA43, (fun i _ => by simp), grown_refl _ _⟩
          case round =>
            obtain ⟨j, f', hjm, rfl, HAr, HF, HG3⟩ := hrel
            by_cases hjl : j < m
            · have hjs : j < (Al.due L x2).length := by have := HM.out; omega
              obtain ⟨p, a, hpx, hp20, hfa, hax, hnot⟩ := Al.told_at HO.out HG.out hjs
              have HTO := Al.told_step HF.out hpx hjs
              rcases HR3.out.2 with ⟨e, h0⟩ | ⟨g, cp', cur, e, hbg, _⟩
              · omega
              injection e with e1 e2 e3
              subst e1 e3
              have hcell := own_cells HR3.out HM.out hjl
              rw [hpx] at hcell
              have c1 := HG3.out.cell hcell (by simp; omega)
              obtain ⟨d4, d4f⟩ := HAr.out.cell hp20
              have efp : f' p = true := by
                rw [HF.out p hp20, HO.out.set p hp20, hfa, hnot]
                rfl
              rw [efp] at d4
              obtain ⟨d5, _⟩ := (HA53.out.kept HG3.out (by simp)).cell hp20
              rw [HO.out.at_ p a hfa] at d5
              have b2 := HG3.out.cell HBX3.out.2.2 (by simp; omega)
              have k1 : decide ((p : Int) < 0) = false := decide_eq_false (by omega)
              have k2 : decide ((19 : Int) < (p : Int)) = false := decide_eq_false (by omega)
              have k3 : decide (x2 < a) = false := decide_eq_false (by omega)
              have k4 : (p : Int) < 20 := by omega
              have k5 : ¬ ((p : Int) < 0) := by omega
              have k6 : ¬ ((19 : Int) < (p : Int)) := by omega
              have k7 : ¬ (x2 < a) := by omega
              clear hcell hfa hnot hpx efp hbg
              go_wp2_with fail
              go_quiet (fail)
              go_wp2
              go_roundw
              case rel => exact ⟨j + 1, Al.upd f' p false, by omega, by go_num, (HAr.out.kept (grown_drew (grown_refl _ none) _) (by simp)).put (fun j _ => by unfold Al.upd; split <;> rfl), HTO, grown_trans (grown_drew HG3.out _) (grown_setCell _ _ _ _)⟩
              case measure => simp [intOf]; omega
            · obtain rfl : j = m := by omega
              have HON : Hid (Al.On (Al.rest L x2) f' t) := by
                have : Al.On (Al.rest L x2) f' t := HO.out.due HG.out (fun i hi => by
                  have := HF.out i hi
                  rw [← HM.out, List.take_length] at this
                  exact this)
                exact this
              have HK5 : Hid (ClockAt wr s bm (Al.rest L x2)) := HK3.out.kept HG3.out (by simp; omega) (by simp; omega)
              have HA55 : Hid (ArrAt wr (A + 1) 54 (fun i => .int .i64 (t i))) := HA53.out.kept HG3.out (by simp)
              have HB5 : Hid (Below w.heap.size w wr) := HB3.out.grown HG3.out HB3.out.size (fun k hk => by cases hk; omega)
              have HX5 : Hid (wr.cell? ⟨X, 2, none⟩ = some (.int .i64 x2)) := HG3.out.cell HBX3.out.2.2 (by simp; omega)
              have HR5 : Hid (∀ (i : Nat) a, Al.find (Al.rest L x2) (i : Int) = some a → x2 < a) := fun i a h => ((Al.find_rest HG.out.nodup).1 h).2
              clear HF HG3 HR3 HBX3 HA53 HA43 HB3 HK3
              obtain ⟨w5, rfl⟩ : ∃ W, W = wr := ⟨_, rfl⟩
              go_wp2
              go_loopw [14] (fun i wr => ∃ (y : Nat), y ≤ 20 ∧ i = .int .i64 y ∧ Hid (w5.grownBy wr none))
                (fun i _ => 20 - (intOf i).toNat)
              case atStart => exact ⟨0, by omega, rfl, grown_refl _ _⟩
              case round =>
                obtain ⟨y, hy, rfl, HG5⟩ := hrel
                by_cases hyl : y < 20
                · obtain ⟨d4, _⟩ := (HAr.out.kept HG5.out (by simp)).cell hyl
                  obtain ⟨d5, _⟩ := (HA55.out.kept HG5.out (by simp)).cell hyl
                  have b2 := HG5.out.cell HX5.out (by simp)
                  have k4 : (y : Int) < 20 := by omega
                  have hset := HON.out.set y hyl
                  cases hfy : Al.find (Al.rest L x2) (y : Int) with
                  | none =>
                    rw [hfy] at hset
                    rw [hset] at d4
                    clear hset hfy
                    simp only [Option.isSome_none] at d4
                    go_wp2_with fail
                    go_quiet (fail)
                    go_wp2
                    go_roundw
                    case rel => exact ⟨y + 1, by omega, by go_num, grown_drew HG5.out _⟩
                    case measure => simp [intOf]; omega
                  | some a =>
                    rw [hfy] at hset
                    rw [hset] at d4
                    rw [HON.out.at_ y a hfy] at d5
                    have hxa := HR5.out y a hfy
                    have k3 : decide (a ≤ x2) = false := decide_eq_false (by omega)
                    clear hset hfy
                    simp only [Option.isSome_some] at d4
                    go_wp2_with fail
                    go_quiet (fail)
                    go_wp2
                    go_roundw
                    case rel => exact ⟨y + 1, by omega, by go_num, grown_drew HG5.out _⟩
                    case measure => simp [intOf]; omega
                · obtain rfl : y = 20 := by omega
                  have HK6 : Hid (ClockAt wr s bm (Al.rest L x2)) := HK5.out.kept HG5.out (by simp) (by simp)
                  go_wp2_with fail
                  refine (next_any _ HK6.out).mono ?_
                  rintro e w7 ⟨rfl, hg7⟩
                  have HG7 : Hid (w5.grownBy w7 none) := grown_trans HG5.out hg7
                  have b2 := HG7.out.cell HX5.out (by simp)
                  by_cases h0 : 0 < (Al.rest L x2).length
                  · have hnx := Al.next_rest h0
                    generalize Al.next (Al.rest L x2) = nx at hnx ⊢
                    rw [decide_eq_true h0]
                    have hnx' : ¬ (nx ≤ x2) := by omega
                    clear hg7
                    go_wp2
                    go_roundw
                    case rel => exact ⟨k + 1, Al.rest L x2, f', t, by omega, by go_num, HK5.out.kept HG7.out (by simp) (by simp), HAr.out.kept HG7.out (by simp), HA55.out.kept HG7.out (by simp), HON, HB5.out.trans (below_none HG7.out HB5.out.size)⟩
                    case measure => simp [intOf]; omega
                  · generalize Al.next (Al.rest L x2) = nx
                    rw [decide_eq_false h0]
                    clear hg7
                    go_wp2
                    go_roundw
                    case rel => exact ⟨k + 1, Al.rest L x2, f', t, by omega, by go_num, HK5.out.kept HG7.out (by simp) (by simp), HAr.out.kept HG7.out (by simp), HA55.out.kept HG7.out (by simp), HON, HB5.out.trans (below_none HG7.out HB5.out.size)⟩
                    case measure => simp [intOf]; omega
        · have HE : Hid (Al.dueErr x2 = 1) := if_neg hfit
          have HT : Hid (Al.dueTo L x2 = L) := if_neg hfit
          clear hfit
          go_wp2_with fail
          refine (due_any (now := x2) _ HKb.out).mono ?_
          rintro e w3 ⟨v, rfl, hr3, hk3, hg3⟩
          rw [HT.out] at hk3
          rw [HE.out]
          have HA43 : Hid (ArrAt w3 A 53 (fun i => .bool (f i))) := HA4b.out.kept hg3 (by simp; omega)
          have HA53 : Hid (ArrAt w3 (A + 1) 54 (fun i => .int .i64 (t i))) := HA5b.out.kept hg3 (by simp; omega)
          have HB3 : Hid (Below w.heap.size w w3) := HBb.out.trans (below_clock hg3 s2 HBb.out.size)
          have HK3 : Hid (ClockAt w3 s bm L) := hk3
          clear hk3 hg3 hr3
          go_wp2
          go_roundw
          case rel => exact ⟨k + 1, L, f, t, by omega, by go_num, HK3, HA43, HA53, HO, HB3⟩
          case measure => simp [intOf]; omega
      go_wp2
      go_roundw
      case rel => exact ⟨k + 1, L, f, t, by omega, by go_num, HKb, HA4b, HA5b, HO, HBb⟩
      case measure => simp [intOf]; omega
    · obtain rfl : k = n := by omega
      go_wp2_with fail
      refine (three_any _).mono ?_
      rintro e w9 ⟨rfl, hg9⟩
      have HB9 : Hid (Below w.heap.size w w9) := HB.out.trans (below_none hg9 HB.out.size)
      clear hg9
      go_wp2
      go_ret
      exact ⟨rfl, HB9.out⟩

set_option maxHeartbeats 1000000 in
set_option maxRecDepth 100000 in
theorem once_none (ao : Option Addr) (cap : Nat) (w : World) : Calls Try.prog 4 #[.slice ao 0 cap] w fun e w' => e = .returned (.bool true) ∧ Below w.heap.size w w' := by
  go_enter Try.func4, Try.ntmps4
  go_wp2_with fail
  refine (new_ex _).mono ?_
  rintro e w1 ⟨s, bm, rfl, hs, hbm, hk, hg⟩
  have HB1 : Hid (Below w.heap.size w w1) := below_none hg (Nat.le_refl _)
  clear hs hbm hk hg
  go_wp2
  have ga := grown_trans (World.grownBy_alloc w1 Z53 none) (World.grownBy_alloc (w1.alloc Z53) Z54 none)
  have HB2 : Hid (Below w.heap.size w ((w1.alloc Z53).alloc Z54)) := HB1.out.trans (below_none ga HB1.out.size)
  clear ga HB1
  generalize (w1.alloc Z53).alloc Z54 = w2 at HB2 ⊢
  refine wp_loop_rounds 1 ?_
  rw [rounds_succ]
  go_wp2_with fail
  refine (three_any _).mono ?_
  rintro e w9 ⟨rfl, hg9⟩
  have HB9 : Hid (Below w.heap.size w w9) := HB2.out.trans (below_none hg9 HB2.out.size)
  clear hg9
  go_wp2
  go_ret
  exact ⟨rfl, HB9.out⟩
set_option maxHeartbeats 1000000 in
set_option maxRecDepth 100000 in
theorem once_long (p : Option Addr) (n cap : Nat) (w : World) (h : 600 < n) : Calls Try.prog 4 #[.slice p n cap] w fun e w' => e = .returned (.bool true) ∧ Below w.heap.size w w' := by
  have h' : (600 : Int) < (n : Int) := by omega
  go_enter Try.func4, Try.ntmps4
  go_wp2_with fail
  refine (new_ex _).mono ?_
  rintro e w1 ⟨s, bm, rfl, hs, hbm, hk, hg⟩
  have HB1 : Hid (Below w.heap.size w w1) := below_none hg (Nat.le_refl _)
  clear hs hbm hk hg
  go_wp2_with fail
  refine (three_any _).mono ?_
  rintro e w9 ⟨rfl, hg9⟩
  have HB9 : Hid (Below w.heap.size w w9) := HB1.out.trans (below_none hg9 HB1.out.size)
  clear hg9
  go_wp2
  go_ret
  exact ⟨rfl, HB9.out⟩

theorem once_any (v : Value) (l : List (Int × Int × Int)) (w : World) (hv : StepsAt w v l) : Calls Try.prog 4 #[v] w fun e w' => e = .returned (.bool true) ∧ Below w.heap.size w w' := by
  rcases hv with ⟨ao, cap, rfl, rfl⟩ | ⟨b, off, cap, rfl, hB, hp, hc, hm, hx⟩
  · exact once_none ao cap w
  · by_cases h : l.length ≤ 600
    · exact once_some b off cap l w hB hp hc hm h hx
    · exact once_long _ _ _ w (by omega)

set_option maxRecDepth 100000 in
theorem alarmOnce_lifted (os : Os) (started : os.Started) (H : Type) (enc : TypeId × Value → H) :
    ReturnsInHanded {} Try.checked os 4 .any (Rows.alarmOnceSpec.pre6 enc Try.prog Try.f4 Rows.alarmOnceRow.domain false) (Rows.alarmOnceSpec.post enc Try.prog Try.f4 false true false false) := by
  refine returnsInHanded_of_change (C := Try.checked) own started (by kernel_rfl) Try.func4
    (ChangeSpec.witness6 (enc := enc) (C := Try.checked) false ⟨#[], #[.slice none 0 0], []⟩ 8 (by kernel_rfl) (by kernel_rfl) (by kernel_rfl) (by kernel_rfl)) ?_
  intro W base args ds gs before hval0 hW hcnd _
  have hval : ∀ (j : Nat) t v, Try.f4.params[j]? = some t → args[j]? = some v → Value.okWide Try.prog W .any base t v := hval0
  have hW' := hW
  obtain ⟨p, q, hA0, hV, rfl, hfz, hnd⟩ := hW
  have hA : DataW.TrodAll enc Try.prog W 0 (fun _ => true) true Try.f4.params.toList args.toList ds p := hA0
  rw [Try.params4] at hA hval
  obtain ⟨v0, d0, rfl, rfl, h0⟩ := trodAll_one hA
  obtain ⟨rfl, rfl⟩ := trodVars_none hV
  obtain ⟨l, hl, _⟩ := open_steps Try.underlying22 Try.underlying31 (by kernel_rfl) (by kernel_rfl) Try.underlying3 Try.underlying3 Try.underlying3 (okWide_slice Try.underlying22 (hval 0 22 v0 rfl rfl)) h0
  refine (once_any v0 l W hl).mono fun e W' ⟨he, hg⟩ => ⟨_, he, ?_⟩
  exact Law.post laidOut (by kernel_rfl) rfl Try.underlying4 hW' rfl rfl hg

theorem alarmOnce_holds : Rows.AlarmOnceSaid :=
  OpenClaim.holds_of_wide 4 Try.f4 rfl rfl rfl rfl rfl rfl rfl ⟨rfl, rfl, rfl, rfl, rfl⟩ rfl rfl rfl rfl rfl (by kernel_rfl) Try.func4 (by kernel_rfl)
    (of_decide_eq_true (by kernel_rfl)) (by unfold Func.isWrapper; first | (rw [if_pos (by decide +kernel)]; kernel_rfl) | (rw [if_neg (by decide +kernel)]; exact ⟨rfl, rfl⟩))
    (fun os started H enc _ => alarmOnce_lifted os started H enc)
#print axioms alarmOnce_holds
end Go.Proofs.Ytpfnlciacbfcgaa
