/-
  For any kinds and any number sextonlaw09.ItabRoom returns true, whatever the memory: as many inodes can be made as there is room, each under the least number that is free; then none, until one is dropped. No condition.
-/
import Derived.Test.YtobcjnfombfdmabAgain
import Derived.Test.YtobcjnfombfdmabPlainS
import Derived.Test.YtobcjnfombfdmabLaw
import Derived.Lib.SmallJoins
namespace Go.Proofs.Ytobcjnfombfdmab
open Go.ChangeShapes Go.WideShapes Go.ChangeAt Go.RowKit Go.Deep It

namespace It
theorem usedFrom_filter : ∀ (L : List Ino) (k : Nat), (usedFrom k L).length = (L.filter fun x => decide (x.kind ≠ 0)).length
  | [], k => rfl
  | y :: l, k => by
    have ih := usedFrom_filter l (k + 1)
    show (if y.kind = 0 then usedFrom (k + 1) l else ((k : Int), y.gen) :: usedFrom (k + 1) l).length = _
    by_cases h : y.kind = 0
    · rw [if_pos h, List.filter_cons_of_neg (by simp [h]), ih]
    · rw [if_neg h, List.filter_cons_of_pos (by simp [h])]
      simp [ih]
/-- All in use, each for the first time. -/
structure Busy (T : List Ino) : Prop where
  right : It.right T = true
  all : ∀ x ∈ T, x.kind ≠ 0 ∧ x.gen = 1
theorem busy_new : Busy new := ⟨right_new, fun x hx => by
  simp [new] at hx
  subst hx
  decide⟩
theorem busy_next {T : List Ino} (h : Busy T) : next T = ((T.length : Int), 1) := next_none fun _ x _ hx hq => (h.all x (List.mem_of_getElem? hx)).1 hq.1
theorem busy_used {T : List Ino} (h : Busy T) : (used T).length = T.length := by
  unfold used
  rw [usedFrom_filter, List.filter_eq_self.2 (fun x hx => by simpa using (h.all x hx).1)]
theorem busy_arg {T : List Ino} (h : Busy T) {k : Int} (hk : ¬ (k = 1 ∨ k = 2)) : makeErr T k 0 = 1 := by
  unfold makeErr
  rw [if_pos h.right, if_neg]
  unfold argOk
  rw [decide_eq_false hk]
  decide
theorem busy_full {T : List Ino} (h : Busy T) {k : Int} (hk : k = 1 ∨ k = 2) (hl : T.length = 24) : makeErr T k 0 = 407 := by
  have ha : argOk k 0 = true := by unfold argOk; rw [decide_eq_true hk, decide_eq_true (by omega)]; rfl
  unfold makeErr
  rw [if_pos h.right, if_pos ha, busy_next h, if_pos (by simp [hl])]
theorem busy_make {T : List Ino} (h : Busy T) {k : Int} (hk : k = 1 ∨ k = 2) (hl : T.length ≠ 24) : makeErr T k 0 = 0 ∧ makeH T k 0 = ((T.length : Int), 1) ∧ makeTab T k 0 = T ++ [fresh 1 k 0] ∧ Busy (makeTab T k 0) := by
  have ha : argOk k 0 = true := by unfold argOk; rw [decide_eq_true hk, decide_eq_true (by omega)]; rfl
  have he : makeErr T k 0 = 0 := by
    unfold makeErr
    rw [if_pos h.right, if_pos ha, busy_next h, if_neg (by simp; omega)]
  have ht : makeTab T k 0 = T ++ [fresh 1 k 0] := by
    unfold makeTab put
    rw [if_pos he, busy_next h, if_neg (by simp)]
  have hr : It.right (makeTab T k 0) = true := (inv_make (hs := []) ⟨h.right, List.nodup_nil, fun g hg => by cases hg⟩ he).1.right
  refine ⟨he, by unfold makeH; rw [if_pos he, busy_next h], ht, hr, fun x hx => ?_⟩
  rw [ht] at hx
  rcases List.mem_append.1 hx with hx | hx
  · exact h.all x hx
  · simp at hx
    subst hx
    refine ⟨?_, rfl⟩
    show k ≠ 0
    omega
theorem busy_len {T : List Ino} (h : Busy T) : 1 ≤ T.length ∧ T.length ≤ 24 := right_len24 h.right
theorem busy_drop {T : List Ino} (h : Busy T) {d : Nat} (h1 : 1 ≤ d) (h2 : d < T.length) : dropErr T d 1 = 0 ∧ makeErr (dropTab T d 1) 1 0 = 0 ∧ makeH (dropTab T d 1) 1 0 = ((d : Int), 2) ∧ (used (dropTab T d 1)).length = T.length - 1 := by
  have hl := busy_len h
  obtain ⟨x, hx⟩ : ∃ x, T[d]? = some x := ⟨_, List.getElem?_eq_getElem h2⟩
  have hxb := h.all x (List.mem_of_getElem? hx)
  have hn : names T d 1 = true := by rw [names_some hx]; exact decide_eq_true ⟨hxb.2, hxb.1⟩
  have hf : findErr T d 1 = 0 := by rw [find_err h.right, if_pos hn]
  have hde : dropErr T d 1 = 0 := by unfold dropErr; rw [if_pos hf, if_neg (by omega)]
  have hdt : dropTab T d 1 = put T d (gone 1) := by
    unfold dropTab
    rw [if_pos hde]
    rfl
  have hput := put_at (L := T) (x := gone 1) (show d ≤ T.length by omega)
  have hr : It.right (dropTab T d 1) = true := by rw [hdt]; exact right_put h.right (by omega) (by omega) h1 (one_gone (by decide))
  have hnx : next (dropTab T d 1) = ((d : Int), 2) := by
    rw [hdt]
    have hd := hput d
    rw [if_pos rfl] at hd
    refine next_here hd (fun i y hi hy hq => ?_) ⟨rfl, by decide⟩
    rw [hput i, if_neg (by omega)] at hy
    exact (h.all y (List.mem_of_getElem? hy)).1 hq.1
  have hme : makeErr (dropTab T d 1) 1 0 = 0 := by
    unfold makeErr
    rw [if_pos hr, if_pos (by decide), hnx, if_neg (by simp; omega)]
  refine ⟨hde, hme, by unfold makeH; rw [if_pos hme, hnx], ?_⟩
  rw [hdt]
  unfold used put
  rw [if_pos h2, usedFrom_filter, List.set_eq_take_append_cons_drop, if_pos h2, List.filter_append, List.filter_cons_of_neg (by decide), List.filter_eq_self.2 (fun y hy => by simpa using (h.all y (List.mem_of_mem_take hy)).1), List.filter_eq_self.2 (fun y hy => by simpa using (h.all y (List.mem_of_mem_drop hy)).1)]
  simp
  omega
end It
def EN : Enc Int := ⟨1, fun x => [.int .i64 x], fun _ => rfl, fun x u hu => by
  simp at hu
  subst hu
  rfl⟩
theorem open_intsN {H : Type} {enc : TypeId × Value → H} {P : Program} {W : World} {t e : TypeId} {v : Value} {d : DataW H} {p : List MemPlace} (ht : P.underlying t = some (.slice e)) (he : P.underlying e = some (.int .i64)) (hc : P.cellsOf e = 1) (hv : ∃ a len cap, v = .slice a len cap) (h : DataW.Trod enc P W 0 (fun _ => true) true t v d p) : ∃ l, AtW EN W v l := by
  obtain ⟨a, len, cap, rfl⟩ := hv
  obtain ⟨fuel, hf⟩ := h
  rcases open_ints ht he hc (by simpa [Value.cells] using hf) with ⟨hcs, _⟩ | ⟨a', len', cap', zs, hcs, _, hl, hm, hz, _, hcell, hwz⟩
  · simp at hcs
    obtain ⟨rfl, rfl, rfl⟩ := hcs
    exact ⟨[], .inl ⟨_, _, rfl, rfl⟩⟩
  · simp at hcs
    obtain ⟨rfl, rfl, rfl⟩ := hcs
    have hz' : zs.length = cap := by simpa using hz
    have hlen : (zs.take len).length = len := by simp; omega
    have hflat : ∀ l : List Int, EN.flat l = l.map (Value.int .i64) := fun l => by
      induction l with
      | nil => rfl
      | cons y l ih =>
        have e : EN.flat (y :: l) = Value.int .i64 y :: EN.flat l := rfl
        rw [e, ih]
        rfl
    refine ⟨zs.take len, ?_⟩
    by_cases hp : 0 < len
    · have h0 := hcell 0 (by omega)
      obtain ⟨b, off, spot⟩ := a'
      have hspot : spot = none := by simpa [Addr.add] using World.cell?_spot h0
      subst hspot
      refine .inr ⟨b, off, cap, by rw [hlen], trivial, World.block_lt_of_cell? _ _ h0, by omega, by omega, hm, fun i u hi => ?_⟩
      rw [hflat] at hi
      have hil : i < len := by
        have := (List.getElem?_eq_some_iff.1 hi).1
        rw [List.length_map, hlen] at this
        exact this
      have := hcell i (by omega)
      rw [WideShapes.add_plain] at this
      rw [this]
      rw [List.getElem?_map, List.getElem?_take_of_lt hil] at hi
      have hiz : i < zs.length := by omega
      rw [List.getElem?_eq_getElem hiz] at hi
      simp at hi
      simp [hiz, hi]
    · have : len = 0 := by omega
      subst this
      exact .inl ⟨_, _, rfl, by simp⟩

/-- What holds from kind to kind. -/
structure RoomAt (w W : World) (t : Value) (T : List Rw) (n : Nat) : Prop where
  busy : Busy (pl T)
  len : T.length = n
  tab : TabW W t T
  below : Below w.heap.size w W
theorem RoomAt.up {w W W' : World} {t : Value} {T : List Rw} {n : Nat} (h : RoomAt w W t T n) (hb : Below W.heap.size W W') : RoomAt w W' t T n := ⟨h.busy, h.len, h.tab.up hb, h.below.trans (hb.mono h.below.size)⟩
set_option maxHeartbeats 8000000 in
set_option maxRecDepth 100000 in
theorem room_ok (ao : Option Addr) (cap : Nat) (l : List Int) (dr : Int) (w : World) (hl : l.length ≤ 200) (hv : AtW EN w (.slice ao l.length cap) l) :
    Calls Try.prog 3 #[.slice ao l.length cap, .int .i64 dr] w fun e w' => e = .returned (.bool true) ∧ Below w.heap.size w w' := by
  obtain ⟨ao', cap', hv', _, hx⟩ := hv.open
  simp only [Value.slice.injEq] at hv'
  obtain ⟨rfl, -, rfl⟩ := hv'
  clear hv
  obtain ⟨n, hn⟩ : ∃ n, l.length = n := ⟨_, rfl⟩
  rw [hn] at hl ⊢
  have HN : Hid (l.length = n) := hn
  have HX : Hid (∀ i x, l[i]? = some x → ∃ b off, ao = some ⟨b, off, none⟩ ∧ True ∧ b < w.heap.size ∧ ∀ k u, (EN.cells x)[k]? = some u → w.cell? ⟨b, off + (i * 1 + k), none⟩ = some u) := hx
  clear hn hx
  go_enter Try.func3, Try.ntmps3
  go_wp2_with fail
  refine (new_any _).mono ?_
  rintro e w1 ⟨tb1, T1, rfl, ht1, hp1, hb1⟩
  obtain ⟨p1, c1, hu1, _, _⟩ := ht1.open
  have hl1 : T1.length = 1 := by have := congrArg List.length hp1; simpa [pl, It.new] using this
  rw [hl1] at hu1
  subst hu1
  have HST0 : Hid (RoomAt w w1 (.slice p1 1 c1) T1 1) := ⟨by rw [hp1]; exact busy_new, hl1, ht1.wide, hb1⟩
  have hnl : ¬ (200 : Int) < (n : Int) := by omega
  clear ht1 hp1 hb1 hl1
  go_wp2
  go_loopw [5, 6, 34] (fun t c i wr => ∃ (k m : Nat) (T : List Rw), k ≤ n ∧ i = .int .i64 k ∧ c = .int .i64 m ∧ 1 ≤ m ∧ m ≤ 24 ∧ Hid (RoomAt w wr t T m)) (fun _ _ i _ => n - (intOf i).toNat)
  case atStart => exact ⟨0, 1, T1, Nat.zero_le _, rfl, rfl, Nat.le_refl _, by omega, HST0⟩
  case round =>
    obtain ⟨k, m, T, hk, rfl, rfl, hm1, hm2, HST⟩ := hrel
    by_cases hlt : k < n
    · obtain ⟨x, hyk⟩ : ∃ y, l[k]? = some y := ⟨_, List.getElem?_eq_getElem (by rw [HN.out]; exact hlt)⟩
      obtain ⟨b, off, rfl, _, hB, hc⟩ := HX.out k _ hyk
      have s0 := hc 0 _ rfl
      rw [← HST.out.below.cell (p := ⟨b, off + (k * 1 + 0), none⟩) hB, Nat.add_zero, Nat.mul_one] at s0
      have hkI : (k : Int) < (n : Int) := by omega
      have HPL : Hid ((pl T).length = m) := by show (pl T).length = m; rw [← HST.out.len]; simp [pl]
      clear hyk hc
      by_cases hx : x = 1 ∨ x = 2
      · by_cases h24 : m = 24
        · have HME : Hid (makeErr (pl T) x 0 = 407) := busy_full HST.out.busy hx (by rw [HPL.out]; exact h24)
          have HMH : Hid (makeH (pl T) x 0 = (0, 0)) := by show makeH (pl T) x 0 = (0, 0); unfold makeH; rw [HME.out]; rfl
          have h24' : ((m : Int) == 24) = true := by simp [h24]
          clear h24
          rcases hx with rfl | rfl
          all_goals
            go_wp2_with fail
            refine (make_any _ T _ 0 _ HST.out.tab).mono ?_
            rintro e w2 ⟨tb2, T2, rfl, ht2, hp2, hb2⟩
            rw [HME.out, HMH.out]
            have HS2 : Hid (RoomAt w (w2.alloc (BH 0 0)) u5 T m) := (HST.out.up hb2).up ((Below.refl _ _).alloc (Nat.le_refl _) _)
            clear ht2 hp2 hb2
            go_wp2
            go_roundw
            case rel => exact ⟨k + 1, m, T, by omega, by go_num, rfl, hm1, hm2, HS2⟩
            case measure => simp [intOf]; omega
        · have hbm := busy_make HST.out.busy hx (by rw [HPL.out]; exact h24)
          rw [HPL.out] at hbm
          have HBM : Hid (makeErr (pl T) x 0 = 0 ∧ makeH (pl T) x 0 = ((m : Int), 1) ∧ makeTab (pl T) x 0 = pl T ++ [fresh 1 x 0] ∧ Busy (makeTab (pl T) x 0)) := hbm
          have h24' : ((m : Int) == 24) = false := by simp; omega
          clear h24 hbm
          rcases hx with rfl | rfl
          all_goals
            go_wp2_with fail
            refine (make_any _ T _ 0 _ HST.out.tab).mono ?_
            rintro e w2 ⟨tb2, T2, rfl, ht2, hp2, hb2⟩
            rw [HBM.out.1, HBM.out.2.1]
            have HS2 : Hid (RoomAt w (w2.alloc (BH m 1)) tb2 T2 (m + 1)) := by
              have hs := HST.out.up hb2
              have hlen : T2.length = m + 1 := by
                have := congrArg List.length hp2
                rw [HBM.out.2.2.1] at this
                have h2 := HPL.out
                simp only [pl, List.length_map, List.length_append, List.length_singleton] at this h2
                omega
              exact (⟨by rw [hp2]; exact HBM.out.2.2.2, hlen, ht2.wide, hs.below⟩ : RoomAt w w2 tb2 T2 (m + 1)).up ((Below.refl _ _).alloc (Nat.le_refl _) _)
            clear ht2 hp2 hb2
            go_wp2
            go_roundw
            case rel => exact ⟨k + 1, m + 1, T2, by omega, by go_num, by go_num, by omega, by simp at h24'; omega, HS2⟩
            case measure => simp [intOf]; omega
      · have HME : Hid (makeErr (pl T) x 0 = 1) := busy_arg HST.out.busy hx
        have HMH : Hid (makeH (pl T) x 0 = (0, 0)) := by show makeH (pl T) x 0 = (0, 0); unfold makeH; rw [HME.out]; rfl
        have hx1 : (x != 1) = true := by simp; omega
        have hx2 : (x != 2) = true := by simp; omega
        clear hx
        go_wp2_with fail
        refine (make_any _ T _ 0 _ HST.out.tab).mono ?_
        rintro e w2 ⟨tb2, T2, rfl, ht2, hp2, hb2⟩
        rw [HME.out, HMH.out]
        have HS2 : Hid (RoomAt w (w2.alloc (BH 0 0)) u5 T m) := (HST.out.up hb2).up ((Below.refl _ _).alloc (Nat.le_refl _) _)
        clear ht2 hp2 hb2
        go_wp2
        go_roundw
        case rel => exact ⟨k + 1, m, T, by omega, by go_num, rfl, hm1, hm2, HS2⟩
        case measure => simp [intOf]; omega
    · obtain rfl : k = n := by omega
      by_cases hd : 1 ≤ dr ∧ dr < (m : Int)
      · obtain ⟨d, rfl⟩ := Int.eq_ofNat_of_zero_le (show 0 ≤ dr by omega)
        have hd1 : ¬ ((d : Int) < 1) := by omega
        have hd2 : ¬ ((m : Int) ≤ (d : Int)) := by omega
        have hbd := busy_drop HST.out.busy (d := d) (by omega) (by have := HST.out.len; simp [pl]; omega)
        rw [show (pl T).length = m from by rw [← HST.out.len]; simp [pl]] at hbd
        have HBD : Hid (dropErr (pl T) d 1 = 0 ∧ makeErr (dropTab (pl T) d 1) 1 0 = 0 ∧ makeH (dropTab (pl T) d 1) 1 0 = ((d : Int), 2) ∧ (used (dropTab (pl T) d 1)).length = m - 1) := hbd
        clear hbd hd
        go_wp2_with fail
        refine (drop_any _ T d 1 _ HST.out.tab).mono ?_
        rintro e w2 ⟨tb2, T2, rfl, ht2, hp2, hb2⟩
        rw [HBD.out.1]
        have HT2 : Hid (TabW w2 tb2 T2 ∧ pl T2 = dropTab (pl T) d 1) := ⟨ht2.wide, hp2⟩
        have HB2 : Hid (Below w.heap.size w w2) := (HST.out.up hb2).below
        have HL2 : Hid (T2.length ≤ 24) := by
          have h1 := congrArg List.length hp2
          have h2 := HST.out.len
          unfold dropTab at h1
          rw [if_pos HBD.out.1, put_length] at h1
          simp only [pl, List.length_map] at h1
          rw [if_pos (by simp; omega)] at h1
          show T2.length ≤ 24
          omega
        clear ht2 hp2 hb2
        go_wp2_with fail
        refine (make_any _ T2 1 0 _ HT2.out.1).mono ?_
        rintro e w3 ⟨tb3, T3, rfl, ht3, hp3, hb3⟩
        rw [HT2.out.2, HBD.out.2.1, HBD.out.2.2.1]
        have HB3 : Hid (Below w.heap.size w (w3.alloc (BH d 2))) := by
          have := HB2.out.trans (hb3.mono HB2.out.size)
          exact this.alloc this.size _
        have HT3 : Hid (TabW (w3.alloc (BH d 2)) tb2 T2) := (HT2.out.1.up hb3).up ((Below.refl _ _).alloc (Nat.le_refl _) _)
        clear ht3 hp3 hb3
        go_wp2_with fail
        refine (used_any _ T2 _ HT3.out (by have := HL2.out; omega)).mono ?_
        rintro e w4 ⟨us, rfl, hus, hb4⟩
        obtain ⟨pu, cu, rfl, _, _⟩ := hus.open
        rw [HT2.out.2, HBD.out.2.2.2]
        have HB4 : Hid (Below w.heap.size w w4) := HB3.out.trans (hb4.mono HB3.out.size)
        have hmm : ((m - 1 : Nat) : Int) = (m : Int) - 1 := by omega
        clear hus hb4
        go_wp2_with fail
        refine (again_any _).mono ?_
        rintro e w9 ⟨rfl, hb9⟩
        have HB8 : Hid (Below w.heap.size w w9) := HB4.out.trans (hb9.mono HB4.out.size)
        clear hb9
        go_wp2
        go_ret
        exact ⟨rfl, HB8.out⟩
      · have HU : Hid ((used (pl T)).length = m) := by
          show (used (pl T)).length = m
          rw [busy_used HST.out.busy, ← HST.out.len]
          simp [pl]
        have hor : dr < 1 ∨ (¬ dr < 1 ∧ (m : Int) ≤ dr) := by omega
        clear hd
        rcases hor with h1 | ⟨h1, h2⟩
        all_goals
          go_wp2_with fail
          refine (used_any _ T _ HST.out.tab (by have := HST.out.len; omega)).mono ?_
          rintro e w4 ⟨us, rfl, hus, hb4⟩
          obtain ⟨pu, cu, rfl, _, _⟩ := hus.open
          rw [HU.out]
          have HB4 : Hid (Below w.heap.size w w4) := (HST.out.up hb4).below
          clear hus hb4
          go_wp2_with fail
          refine (again_any _).mono ?_
          rintro e w9 ⟨rfl, hb9⟩
          have HB8 : Hid (Below w.heap.size w w9) := HB4.out.trans (hb9.mono HB4.out.size)
          clear hb9
          go_wp2
          go_ret
          exact ⟨rfl, HB8.out⟩
set_option maxHeartbeats 2000000 in
theorem room_long (ao : Option Addr) (cap n : Nat) (dr : Int) (w : World) (hl : 200 < n) :
    Calls Try.prog 3 #[.slice ao n cap, .int .i64 dr] w fun e w' => e = .returned (.bool true) ∧ Below w.heap.size w w' := by
  have hnl : (200 : Int) < (n : Int) := by omega
  go_enter Try.func3, Try.ntmps3
  go_wp2_with fail
  refine (new_any _).mono ?_
  rintro e w1 ⟨tb1, T1, rfl, ht1, hp1, hb1⟩
  obtain ⟨p1, c1, hu1, _, _⟩ := ht1.open
  have hl1 : T1.length = 1 := by have := congrArg List.length hp1; simpa [pl, It.new] using this
  rw [hl1] at hu1
  subst hu1
  have HB1 : Hid (Below w.heap.size w w1) := hb1
  clear ht1 hp1 hb1 hl1
  go_wp2_with fail
  refine (again_any _).mono ?_
  rintro e w9 ⟨rfl, hb9⟩
  have HB8 : Hid (Below w.heap.size w w9) := HB1.out.trans (hb9.mono HB1.out.size)
  clear hb9
  go_wp2
  go_ret
  exact ⟨rfl, HB8.out⟩
theorem room_any (v : Value) (l : List Int) (dr : Int) (w : World) (hv : AtW EN w v l) : Calls Try.prog 3 #[v, .int .i64 dr] w fun e w' => e = .returned (.bool true) ∧ Below w.heap.size w w' := by
  obtain ⟨ao, cap, rfl, _, _⟩ := hv.open
  by_cases h : l.length ≤ 200
  · exact room_ok ao cap l dr w h hv
  · exact room_long ao cap l.length dr w (by omega)

set_option maxRecDepth 100000 in
theorem itabRoom_lifted (os : Os) (started : os.Started) (H : Type) (enc : TypeId × Value → H) :
    ReturnsInHanded {} Try.checked os 3 .any (Rows.itabRoomSpec.pre6 enc Try.prog Try.f3 Rows.itabRoomRow.domain false) (Rows.itabRoomSpec.post enc Try.prog Try.f3 false true false false) := by
  refine returnsInHanded_of_change (C := Try.checked) own started (by kernel_rfl) Try.func3
    (ChangeSpec.witness6 (enc := enc) (C := Try.checked) false ⟨#[], #[.slice none 0 0, .int .i64 0], []⟩ 8 (by kernel_rfl) (by kernel_rfl) (by kernel_rfl) (by kernel_rfl)) ?_
  intro W base args ds gs before hval0 hW hcnd _
  have hval : ∀ (j : Nat) t v, Try.f3.params[j]? = some t → args[j]? = some v → Value.okWide Try.prog W .any base t v := hval0
  have hW' := hW
  have hlt : ∀ x ∈ before, x.block < W.heap.size := fun x hx => by simpa using hW'.lt x hx
  obtain ⟨p, q, hA0, hV, rfl, hfz, hnd⟩ := hW
  have hA : DataW.TrodAll enc Try.prog W 0 (fun _ => true) true Try.f3.params.toList args.toList ds p := hA0
  rw [Try.params3] at hA hval
  obtain ⟨v0, v1, d0, d1, p0, p1, rfl, rfl, rfl, h0, h1⟩ := trodAll_two hA
  obtain ⟨rfl, rfl⟩ := trodVars_none hV
  obtain ⟨l, hl⟩ := open_intsN Try.underlying22 Try.underlying3 (by kernel_rfl) (okWide_slice Try.underlying22 (hval 0 22 v0 rfl rfl)) h0
  obtain ⟨dr, rfl, rfl, rfl, w1⟩ := open_int Try.underlying3 (hval 1 3 v1 rfl rfl) h1
  refine (room_any v0 l dr W hl).mono fun e W' ⟨he, hg⟩ => ⟨_, he, ?_⟩
  exact Law.post laidOut (by kernel_rfl) rfl Try.underlying4 hW' rfl rfl hg

theorem itabRoom_holds : Rows.ItabRoomSaid :=
  OpenClaim.holds_of_wide 3 Try.f3 rfl rfl rfl rfl rfl rfl rfl ⟨rfl, rfl, rfl, rfl, rfl⟩ rfl rfl rfl rfl rfl (by kernel_rfl) Try.func3 (by kernel_rfl)
    (of_decide_eq_true (by kernel_rfl)) (by unfold Func.isWrapper; first | (rw [if_pos (by decide +kernel)]; kernel_rfl) | (rw [if_neg (by decide +kernel)]; exact ⟨rfl, rfl⟩))
    (fun os started H enc _ => itabRoom_lifted os started H enc)
#print axioms itabRoom_holds
end Go.Proofs.Ytobcjnfombfdmab
