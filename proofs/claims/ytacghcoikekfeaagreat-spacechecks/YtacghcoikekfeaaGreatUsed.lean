/-
  itab's Check, Used and refuse, and slices.Contains at handles: what they answer at any table.
-/
import Derived.Test.YtacghcoikekfeaaGreatRight
import Derived.Lib.SmallJoins
namespace Go.Proofs.YtacghcoikekfeaaGreat
open Go.ChangeShapes Go.WideShapes Go.ChangeAt Go.RowKit Go.Deep It
set_option maxRecDepth 100000

def It.checkErr (L : List Ino) : Int := if It.right L then 0 else 4
abbrev BH (a b : Int) : Obj := .cells #[.int .i64 a, .int .i64 b] 31
abbrev VH (h : Int × Int) : Value := .agg #[.int .i64 h.1, .int .i64 h.2]
theorem infoH : (Tryz.prog.info? 31).map (fun i => (i.zero, i.size, i.bytes)) = some (some (.agg #[.int .i64 0, .int .i64 0]), 2, 16) := by kernel_rfl
theorem It.pl_get {L : List Rw} {i : Nat} {x : Rw} (h : L[i]? = some x) : (It.pl L)[i]? = some x.i := by simp [It.pl, h]
theorem It.not_right_of {L : List Ino} (h : It.right L = true → False) : It.checkErr L = 4 := by
  unfold It.checkErr
  rw [if_neg h]

set_option maxHeartbeats 1000000 in
theorem check_any {S : Nat → Prop} (v : Value) (L : List Rw) (w : World) (hv : TabAt S w v L) :
    Calls Tryz.prog 31 #[v] w fun e w' => e = .returned (.int .i64 (It.checkErr (pl L))) ∧ Below w.heap.size w w' := by
  obtain ⟨ao, cap, rfl, hm, hx⟩ := hv.open
  clear hv
  unfold maxLen at hm
  obtain ⟨n, hn⟩ : ∃ n, L.length = n := ⟨_, rfl⟩
  rw [hn] at hm ⊢
  have HN : Hid (L.length = n) := hn
  have HX : Hid (∀ i x, L[i]? = some x → (∃ b off, ao = some ⟨b, off, none⟩ ∧ b < w.heap.size ∧ eight w b (off + i * 8) x) ∧ Good S w x) := hx
  clear hn hx
  by_cases hr : 1 ≤ n ∧ n ≤ 24
  · have h0 : L[0]? = some (L[0]'(by have := HN.out; omega)) := List.getElem?_eq_getElem _
    obtain ⟨x, hx0⟩ : ∃ x, L[0]? = some x := ⟨_, h0⟩
    clear h0
    obtain ⟨⟨b, off, rfl, hB, hc⟩, hg⟩ := HX.out 0 x hx0
    have c1 := hc.2.1
    simp only [Nat.zero_mul, Nat.add_zero] at c1
    have HW : Hid ((1 : Int) ≤ (n : Int) ∧ (n : Int) ≤ 24) := ⟨by omega, by omega⟩
    have hn0 : (0 : Int) < (n : Int) := by omega
    by_cases hk : x.i.kind = 2
    · have hk' : (x.i.kind == 2) = true := by simp [hk]
      have HR0 : Hid (rootB (pl L) = true) := by
        cases L with
        | nil => simp at hx0
        | cons y l =>
          simp at hx0
          subst hx0
          exact decide_eq_true hk
      rw [hk] at c1
      generalize x.i.kind = kk at hk'
      clear hc hg hk
      go_enter Tryz.func31, Tryz.ntmps31
      go_wp2_with fail
      refine (within_yes _ _ _ _ HW.out).mono ?_
      rintro e w' ⟨rfl, rfl⟩
      go_wp2
      go_loopw [19] (fun i wr => ∃ k : Nat, k ≤ n ∧ i = .int .i64 k ∧ (∀ y ∈ L.take k, one y.i = true) ∧ Below w'.heap.size w' wr) (fun i _ => n - (intOf i).toNat)
      case atStart => exact ⟨0, Nat.zero_le _, rfl, by simp, Below.refl _ _⟩
      case round =>
        obtain ⟨k, hk, rfl, hall, hbl⟩ := hrel
        have HALL : Hid (∀ y ∈ L.take k, one y.i = true) := hall
        clear hall
        have hsz := hbl.size
        by_cases hlt : k < n
        · have h0 : L[k]? = some (L[k]'(by have := HN.out; omega)) := List.getElem?_eq_getElem _
          obtain ⟨y, hyk⟩ : ∃ y, L[k]? = some y := ⟨_, h0⟩
          clear h0
          obtain ⟨⟨b', off', hbe, hB', hc'⟩, hg'⟩ := HX.out k y hyk
          cases hbe
          obtain ⟨d0, d1, d2, d3, d4, d5, d6, d7⟩ := hc'.below hbl hB'
          have HGY : Hid (Good S wr y) := (hg'.up hbl)
          have HT : Hid (L.take (k + 1) = L.take k ++ [y]) := It.take_succ hyk
          have HMY : Hid (y ∈ L) := List.mem_of_getElem? hyk
          have hlt' : (k : Int) < (n : Int) := by omega
          clear hyk hc' hg'
          go_wp2_with fail
          refine (right_any y _ (HGY.out.up ((Below.refl _ _).alloc (Nat.le_refl _) _))).mono ?_
          rintro e w2 ⟨rfl, hb2⟩
          have HB2 : Hid (Below w'.heap.size w' w2) := (hbl.alloc hsz _).trans (hb2.mono (by simp; omega))
          clear hb2
          cases ho : one y.i with
          | false =>
            have HE : Hid (It.checkErr (pl L) = 4) := It.not_right_of fun h => by
              have := (It.right_iff.1 h).2.2 y.i (List.mem_map.2 ⟨y, HMY.out, rfl⟩)
              rw [ho] at this
              cases this
            clear ho
            go_wp2
            go_ret
            rw [HE.out]
            exact ⟨rfl, HB2.out⟩
          | true =>
            have HO : Hid (one y.i = true) := ho
            clear ho
            go_wp2
            go_roundw
            case rel =>
              refine ⟨k + 1, by omega, by go_num, fun z hz => ?_, HB2.out⟩
              rw [HT.out, List.mem_append] at hz
              rcases hz with hz | hz
              · exact HALL.out z hz
              · simp at hz
                subst hz
                exact HO.out
            case measure => simp [intOf]; omega
        · obtain rfl : k = n := by omega
          have HE : Hid (It.checkErr (pl L) = 0) := by
            show It.checkErr (pl L) = 0
            unfold It.checkErr
            rw [if_pos]
            refine It.right_iff.2 ⟨?_, HR0.out, fun z hz => ?_⟩
            · have := HN.out
              simp only [pl, List.length_map]
              omega
            · obtain ⟨y, hy, rfl⟩ := List.mem_map.1 hz
              refine HALL.out y ?_
              rw [← HN.out, List.take_length]
              exact hy
          go_wp2
          go_ret
          rw [HE.out]
          exact ⟨rfl, hbl⟩
    · have hk' : (x.i.kind == 2) = false := by simp [hk]
      have HE : Hid (It.checkErr (pl L) = 4) := It.not_right_of fun h => by
        have := (It.right_iff.1 h).2.1
        cases L with
        | nil => simp at hx0
        | cons y l =>
          simp at hx0
          subst hx0
          exact hk (of_decide_eq_true this)
      clear hc hg hk
      go_enter Tryz.func31, Tryz.ntmps31
      go_wp2_with fail
      refine (within_yes _ _ _ _ HW.out).mono ?_
      rintro e w' ⟨rfl, rfl⟩
      go_wp2
      go_ret
      rw [HE.out]
      exact ⟨rfl, Below.refl _ _⟩
  · have HE : Hid (It.checkErr (pl L) = 4) := It.not_right_of fun h => by
      have := (It.right_iff.1 h).1
      simp only [pl, List.length_map] at this
      have := HN.out
      omega
    have HW : Hid (¬ ((1 : Int) ≤ (n : Int) ∧ (n : Int) ≤ 24)) := show ¬ _ by omega
    clear hr
    go_enter Tryz.func31, Tryz.ntmps31
    go_wp2_with fail
    refine (within_no _ _ _ _ HW.out).mono ?_
    rintro e w' ⟨rfl, rfl⟩
    go_wp2
    go_ret
    rw [HE.out]
    exact ⟨rfl, Below.refl _ _⟩

theorem one_hand (w : World) (a b : Int) (B : Nat) (h : w.heap[B]? = some (BH a b)) : AtW EH w (.slice (some ⟨B, 0, none⟩) 1 1) [(a, b)] := by
  refine .inr ⟨B, 0, 1, rfl, trivial, (Array.getElem?_eq_some_iff.1 h).1, by simp, by simp, by simp [maxLen], fun j u hj => ?_⟩
  have hj' : [Value.int .i64 a, .int .i64 b][j]? = some u := hj
  match j, hj' with
  | 0, hj' => simp [World.cell?, h] at hj' ⊢; exact hj'
  | 1, hj' => simp [World.cell?, h] at hj' ⊢; exact hj'

set_option maxHeartbeats 1000000 in
set_option maxRecDepth 100000 in
theorem used_any {S : Nat → Prop} (v : Value) (L : List Rw) (w : World) (hv : TabAt S w v L) (hL : L.length ≤ 1466015503701) :
    Calls Tryz.prog 68 #[v] w fun e w' => ∃ u, e = .returned u ∧ AtW EH w' u (used (pl L)) ∧ Below w.heap.size w w' := by
  obtain ⟨i0, hi, hz0, hz1, hz2⟩ := info_parts infoH
  obtain ⟨ao, cap, rfl, hm, hx⟩ := hv.open
  clear hv
  unfold maxLen at hm
  obtain ⟨n, hn⟩ : ∃ n, L.length = n := ⟨_, rfl⟩
  rw [hn] at hm hL ⊢
  have HN : Hid (L.length = n) := hn
  have HX : Hid (∀ i x, L[i]? = some x → (∃ b off, ao = some ⟨b, off, none⟩ ∧ b < w.heap.size ∧ eight w b (off + i * 8) x) ∧ Good S w x) := hx
  clear hn hx
  go_enter Tryz.func68, Tryz.ntmps68
  go_wp2
  go_loopw [3, 8] (fun u i wr => ∃ k : Nat, k ≤ n ∧ i = .int .i64 k ∧ Row EH wr w.heap.size 31 u (used ((pl L).take k)) ∧ Hid (Below w.heap.size w wr)) (fun _ i _ => n - (intOf i).toNat)
  case atStart => exact ⟨0, Nat.zero_le _, rfl, Row.nil _ _ _ _, Below.refl _ _⟩
  case round =>
    obtain ⟨k, hk, rfl, hrow, HB⟩ := hrel
    by_cases hlt : k < n
    · have h0 : L[k]? = some (L[k]'(by have := HN.out; omega)) := List.getElem?_eq_getElem _
      obtain ⟨y, hyk⟩ : ∃ y, L[k]? = some y := ⟨_, h0⟩
      clear h0
      obtain ⟨⟨b, off, rfl, hB', hc'⟩, _⟩ := HX.out k y hyk
      obtain ⟨d0, d1, d2, d3, d4, d5, d6, d7⟩ := hc'.below HB.out hB'
      have HU := It.used_take_succ (It.pl_get hyk)
      have hul := It.used_length ((pl L).take k)
      rw [List.length_take] at hul
      obtain ⟨pu, cu, hu⟩ := hrow.slice
      generalize used ((pl L).take k) = O at hrow hu HU hul
      obtain ⟨q, hq⟩ : ∃ q, O.length = q := ⟨_, rfl⟩
      have HQ : Hid (O.length = q) := hq
      rw [hq] at hu hul
      have hqk : q ≤ k := by omega
      subst hu
      have hlt' : (k : Int) < (n : Int) := by omega
      clear hyk hc' hq hul
      by_cases hkd : y.i.kind = 0
      · rw [if_pos hkd, List.append_nil] at HU
        have hkd' : (y.i.kind == 0) = true := by simp [hkd]
        have HU2 : Hid (used ((pl L).take (k + 1)) = O) := HU
        have HR : Hid (Row EH wr w.heap.size 31 (.slice pu q cu) O) := hrow
        clear hkd HU hrow
        go_wp2
        go_roundw
        case rel => exact ⟨k + 1, by omega, by go_num, by rw [HU2.out]; exact HR.out.still (World.grownBy_alloc _ _ _), HB.out.alloc HB.out.size _⟩
        case measure => simp [intOf]; omega
      · rw [if_neg hkd] at HU
        have hkd' : (y.i.kind == 0) = false := by simp [hkd]
        have HU2 : Hid (used ((pl L).take (k + 1)) = O ++ [((k : Int), y.i.gen)]) := HU
        have HR : Hid (Row EH wr w.heap.size 31 (.slice pu q cu) O) := hrow
        have hbs := HB.out.size
        obtain ⟨OB, hOB⟩ : ∃ OB, OB = (Obj.cells #[.int .i64 y.i.gen, .int .i64 y.i.kind, .int .i64 y.i.links, .int .i64 y.i.size, .int .i64 y.i.stamp, .slice y.rp y.rn y.rc, .slice y.ep y.en y.ec, .int .i64 y.i.next] 65) := ⟨_, rfl⟩
        have HI : Hid (AtW EH ((wr.alloc OB).alloc (BH k y.i.gen)) (.slice (some ⟨wr.heap.size + 1, 0, none⟩) 1 1) [((k : Int), y.i.gen)]) := by
          refine one_hand _ _ _ _ ?_
          have := heap_alloc_new (wr.alloc OB) (BH k y.i.gen)
          rw [show (wr.alloc OB).heap.size = wr.heap.size + 1 by simp] at this
          exact this
        rw [hOB] at HI
        clear hkd HU hrow hOB
        go_wp2_with (at_builtin; refine wpList_row _ rfl _ _ 103 rfl EH (fun _ => True) w.heap.size 31 i0 (.agg #[.int .i64 0, .int .i64 0]) 16 Tryz.underlying103 hi hz0 hz1 hz2 rfl (.slice pu q cu) O rfl ((HR.out.still (World.grownBy_alloc _ _ _)).still (World.grownBy_alloc _ _ _)) _ [((k : Int), y.i.gen)] rfl HI.out (by have := HQ.out; unfold maxLen; simp; omega) (by have := HQ.out; simp; omega) (by simp; omega) ?_; intro v7 w7 hrow7 hg7 hmv7)
        have HB7 : Hid (Below w.heap.size w w7) := ((HB.out.alloc hbs _).alloc (by simp; omega) _).grown hg7 (by simp; omega) (fun i hi => (HR.out.lt i hi).1)
        have HR7 : Hid (Row EH w7 w.heap.size 31 v7 (O ++ [((k : Int), y.i.gen)])) := hrow7
        clear hrow7 hg7 hmv7
        go_wp2
        go_roundw
        case rel => exact ⟨k + 1, by omega, by go_num, by rw [HU2.out]; exact HR7.out, HB7⟩
        case measure => simp [intOf]; omega
    · obtain rfl : k = n := by omega
      have HE : Hid (AtW EH wr u3 (used (pl L)) ∧ Below w.heap.size w wr) := by
        have h := hrow.at.wide
        rw [List.take_of_length_le (by have := HN.out; simp only [pl, List.length_map]; omega)] at h
        exact ⟨h, HB.out⟩
      obtain ⟨pu, cu, hu⟩ := hrow.slice
      generalize (used ((pl L).take k)).length = q at hu
      subst hu
      clear hrow
      go_wp2
      go_ret
      exact ⟨_, rfl, HE.out⟩
end Go.Proofs.YtacghcoikekfeaaGreat
