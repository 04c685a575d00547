/-
  The texts RefOne, RefA, SRef1, FTwo, FRefA, FRefB, FRefC, SRef2, as one.
-/
import Derived.Test.YtacghcoikekfeaaGreatM6
/- RefOne -/
namespace Go.Proofs.YtacghcoikekfeaaGreat
open Go.ChangeShapes Go.WideShapes Go.ChangeAt Go.RowKit Go.Deep It
set_option maxRecDepth 100000

theorem Bl.mem_end {l : List Bl.R} : ∀ {a : Int}, Bl.right a l → ∀ r ∈ l, r.1 + r.2.size ≤ Bl.lastEnd a l := by
  induction l with
  | nil => intro a _ r hr; cases hr
  | cons s l ih =>
    intro a h r hr
    rcases List.mem_cons.1 hr with rfl | hr
    · exact Bl.right_lastEnd h.2
    · exact ih h.2 r hr
theorem Bl.end_le {l : List Bl.R} (h : Bl.right (-1) l) {s : Int} (hs : 0 ≤ s) : Bl.endOf l ≤ s ↔ ∀ r ∈ l, r.1 + r.2.size ≤ s := by
  unfold Bl.endOf
  rw [if_pos h]
  rcases Bl.snoc_cases l with rfl | ⟨m, r, rfl⟩
  · exact ⟨fun _ r hr => (by cases hr), fun _ => hs⟩
  · have he : Bl.lastEnd 0 (m ++ [r]) = r.1 + r.2.size := by rw [Bl.lastEnd_append]; rfl
    have he' : Bl.lastEnd (-1) (m ++ [r]) = r.1 + r.2.size := by rw [Bl.lastEnd_append]; rfl
    rw [he]
    constructor
    · intro h1 q hq
      have := Bl.mem_end h q hq
      rw [he'] at this
      omega
    · intro h1
      exact h1 r (by simp)
set_option maxHeartbeats 1000000 in
theorem rone_lo (g k l s t nx : Int) (rp ep : Option Addr) (rn rc en ec : Nat) (w : World) (hg : g < 1) :
    Calls Tryz.prog 69 #[.agg #[.int .i64 g, .int .i64 k, .int .i64 l, .int .i64 s, .int .i64 t, .slice rp rn rc, .slice ep en ec, .int .i64 nx]] w fun e w' => e = .returned (.bool false) ∧ Below w.heap.size w w' := by
  go_enter Tryz.func69, Tryz.ntmps69
  go_wp2
  go_ret
  exact ⟨rfl, (Below.refl _ w).alloc (Nat.le_refl _) _⟩
set_option maxHeartbeats 1000000 in
theorem rone_hi (g k l s t nx : Int) (rp ep : Option Addr) (rn rc en ec : Nat) (w : World) (hg0 : ¬ g < 1) (hg : 1099511627776 < g) :
    Calls Tryz.prog 69 #[.agg #[.int .i64 g, .int .i64 k, .int .i64 l, .int .i64 s, .int .i64 t, .slice rp rn rc, .slice ep en ec, .int .i64 nx]] w fun e w' => e = .returned (.bool false) ∧ Below w.heap.size w w' := by
  go_enter Tryz.func69, Tryz.ntmps69
  go_wp2
  go_ret
  exact ⟨rfl, (Below.refl _ w).alloc (Nat.le_refl _) _⟩
set_option maxHeartbeats 1000000 in
theorem rone_attr (g k l s t nx : Int) (rp ep : Option Addr) (rn rc en ec : Nat) (w : World) (hg : 1 ≤ g ∧ g ≤ 1099511627776) (ha : At.right k l s t = false) :
    Calls Tryz.prog 69 #[.agg #[.int .i64 g, .int .i64 k, .int .i64 l, .int .i64 s, .int .i64 t, .slice rp rn rc, .slice ep en ec, .int .i64 nx]] w fun e w' => e = .returned (.bool false) ∧ Below w.heap.size w w' := by
  have HA : Hid (At.right k l s t = false) := ha
  have hg1 : ¬ g < 1 := by omega
  have hg2 : ¬ 1099511627776 < g := by omega
  clear hg ha
  go_enter Tryz.func69, Tryz.ntmps69
  go_wp2_with fail
  refine (aright_any _ _ _ _ _).mono ?_
  rintro e w' ⟨rfl, rfl⟩
  rw [HA.out]
  go_wp2
  go_ret
  exact ⟨rfl, ((Below.refl _ w).alloc (Nat.le_refl _) _).alloc (by simp) _⟩
set_option maxHeartbeats 1000000 in
theorem rone_dir (g l s t nx : Int) (rp ep : Option Addr) (rn rc en ec : Nat) (w : World) (hg : 1 ≤ g ∧ g ≤ 1099511627776) (ha : At.right 2 l s t = true) :
    Calls Tryz.prog 69 #[.agg #[.int .i64 g, .int .i64 2, .int .i64 l, .int .i64 s, .int .i64 t, .slice rp rn rc, .slice ep en ec, .int .i64 nx]] w fun e w' => e = .returned (.bool (decide (rn = 0))) ∧ Below w.heap.size w w' := by
  have HA : Hid (At.right 2 l s t = true) := ha
  have hg1 : ¬ g < 1 := by omega
  have hg2 : ¬ 1099511627776 < g := by omega
  clear hg ha
  by_cases hr : rn = 0
  · have hr' : ¬ (0 : Int) < (rn : Int) := by omega
    rw [decide_eq_true hr]
    clear hr
    go_enter Tryz.func69, Tryz.ntmps69
    go_wp2_with fail
    refine (aright_any _ _ _ _ _).mono ?_
    rintro e w' ⟨rfl, rfl⟩
    rw [HA.out]
    go_wp2
    go_ret
    exact ⟨rfl, ((Below.refl _ w).alloc (Nat.le_refl _) _).alloc (by simp) _⟩
  · have hr' : (0 : Int) < (rn : Int) := by omega
    rw [decide_eq_false hr]
    clear hr
    go_enter Tryz.func69, Tryz.ntmps69
    go_wp2_with fail
    refine (aright_any _ _ _ _ _).mono ?_
    rintro e w' ⟨rfl, rfl⟩
    rw [HA.out]
    go_wp2
    go_ret
    exact ⟨rfl, ((Below.refl _ w).alloc (Nat.le_refl _) _).alloc (by simp) _⟩
set_option maxHeartbeats 1000000 in
theorem rone_free (g l s t nx : Int) (rp ep : Option Addr) (rn rc en ec : Nat) (w : World) (hg : 1 ≤ g ∧ g ≤ 1099511627776) (ha : At.right 0 l s t = true) :
    Calls Tryz.prog 69 #[.agg #[.int .i64 g, .int .i64 0, .int .i64 l, .int .i64 s, .int .i64 t, .slice rp rn rc, .slice ep en ec, .int .i64 nx]] w fun e w' => e = .returned (.bool (decide (en = 0) && decide (nx = 0) && decide (rn = 0))) ∧ Below w.heap.size w w' := by
  have HA : Hid (At.right 0 l s t = true) := ha
  have hg1 : ¬ g < 1 := by omega
  have hg2 : ¬ 1099511627776 < g := by omega
  clear hg ha
  by_cases hr : rn = 0
  · have hr' : ¬ (0 : Int) < (rn : Int) := by omega
    rw [decide_eq_true hr, Bool.and_true]
    clear hr
    by_cases he : en = 0
    · have he' : ¬ (0 : Int) < (en : Int) := by omega
      rw [decide_eq_true he, Bool.true_and]
      clear he
      by_cases hn : nx = 0
      · have hn' : (nx != 0) = false := by simp [hn]
        rw [decide_eq_true hn]
        clear hn
        go_enter Tryz.func69, Tryz.ntmps69
        go_wp2_with fail
        refine (aright_any _ _ _ _ _).mono ?_
        rintro e w' ⟨rfl, rfl⟩
        rw [HA.out]
        go_wp2
        go_ret
        exact ⟨rfl, ((Below.refl _ w).alloc (Nat.le_refl _) _).alloc (by simp) _⟩
      · have hn' : (nx != 0) = true := by simp [hn]
        rw [decide_eq_false hn]
        clear hn
        go_enter Tryz.func69, Tryz.ntmps69
        go_wp2_with fail
        refine (aright_any _ _ _ _ _).mono ?_
        rintro e w' ⟨rfl, rfl⟩
        rw [HA.out]
        go_wp2
        go_ret
        exact ⟨rfl, ((Below.refl _ w).alloc (Nat.le_refl _) _).alloc (by simp) _⟩
    · have he' : (0 : Int) < (en : Int) := by omega
      rw [decide_eq_false he, Bool.false_and]
      clear he
      go_enter Tryz.func69, Tryz.ntmps69
      go_wp2_with fail
      refine (aright_any _ _ _ _ _).mono ?_
      rintro e w' ⟨rfl, rfl⟩
      rw [HA.out]
      go_wp2
      go_ret
      exact ⟨rfl, ((Below.refl _ w).alloc (Nat.le_refl _) _).alloc (by simp) _⟩
  · have hr' : (0 : Int) < (rn : Int) := by omega
    rw [decide_eq_false hr, Bool.and_false]
    clear hr
    go_enter Tryz.func69, Tryz.ntmps69
    go_wp2_with fail
    refine (aright_any _ _ _ _ _).mono ?_
    rintro e w' ⟨rfl, rfl⟩
    rw [HA.out]
    go_wp2
    go_ret
    exact ⟨rfl, ((Below.refl _ w).alloc (Nat.le_refl _) _).alloc (by simp) _⟩
set_option maxHeartbeats 1000000 in
theorem rone_fileno (g l s t nx : Int) (rp ep : Option Addr) (rn rc en ec : Nat) (w : World) (hg : 1 ≤ g ∧ g ≤ 1099511627776) (ha : At.right 1 l s t = true) (hb : ¬ (en = 0 ∧ nx = 0)) :
    Calls Tryz.prog 69 #[.agg #[.int .i64 g, .int .i64 1, .int .i64 l, .int .i64 s, .int .i64 t, .slice rp rn rc, .slice ep en ec, .int .i64 nx]] w fun e w' => e = .returned (.bool false) ∧ Below w.heap.size w w' := by
  have HA : Hid (At.right 1 l s t = true) := ha
  have hg1 : ¬ g < 1 := by omega
  have hg2 : ¬ 1099511627776 < g := by omega
  clear hg ha
  by_cases he : en = 0
  · have he' : ¬ (0 : Int) < (en : Int) := by omega
    have hn' : (nx != 0) = true := by
      simp
      intro h
      exact hb ⟨he, h⟩
    clear he hb
    go_enter Tryz.func69, Tryz.ntmps69
    go_wp2_with fail
    refine (aright_any _ _ _ _ _).mono ?_
    rintro e w' ⟨rfl, rfl⟩
    rw [HA.out]
    go_wp2
    go_ret
    exact ⟨rfl, ((Below.refl _ w).alloc (Nat.le_refl _) _).alloc (by simp) _⟩
  · have he' : (0 : Int) < (en : Int) := by omega
    clear he hb
    go_enter Tryz.func69, Tryz.ntmps69
    go_wp2_with fail
    refine (aright_any _ _ _ _ _).mono ?_
    rintro e w' ⟨rfl, rfl⟩
    rw [HA.out]
    go_wp2
    go_ret
    exact ⟨rfl, ((Below.refl _ w).alloc (Nat.le_refl _) _).alloc (by simp) _⟩
set_option maxHeartbeats 1000000 in
theorem rone_filebad (g l s t : Int) (rp ep : Option Addr) (rn rc ec : Nat) (w : World) (hg : 1 ≤ g ∧ g ≤ 1099511627776) (ha : At.right 1 l s t = true) (rs : List (Int × ByteArray)) (hr : AtW ER w (.slice rp rn rc) rs) (ho : okFields rs) (hq : ¬ Bl.right (-1) rs) :
    Calls Tryz.prog 69 #[.agg #[.int .i64 g, .int .i64 1, .int .i64 l, .int .i64 s, .int .i64 t, .slice rp rn rc, .slice ep 0 ec, .int .i64 0]] w fun e w' => e = .returned (.bool false) ∧ Below w.heap.size w w' := by
  have hw : Below w.heap.size w ((w.alloc (.cells #[.int .i64 g, .int .i64 1, .int .i64 l, .int .i64 s, .int .i64 t, .slice rp rn rc, .slice ep 0 ec, .int .i64 0] 65)).alloc (BA 1 l s t)) := ((Below.refl _ w).alloc (Nat.le_refl _) _).alloc (by simp) _
  have HF : Hid (FieldsAt ((w.alloc (.cells #[.int .i64 g, .int .i64 1, .int .i64 l, .int .i64 s, .int .i64 t, .slice rp rn rc, .slice ep 0 ec, .int .i64 0] 65)).alloc (BA 1 l s t)).heap.size ((w.alloc (.cells #[.int .i64 g, .int .i64 1, .int .i64 l, .int .i64 s, .int .i64 t, .slice rp rn rc, .slice ep 0 ec, .int .i64 0] 65)).alloc (BA 1 l s t)) (.slice rp rn rc) rs) := (hr.up hw).fields
  have HO : Hid (okFields rs) := ho
  have HW : Hid (Below w.heap.size w ((w.alloc (.cells #[.int .i64 g, .int .i64 1, .int .i64 l, .int .i64 s, .int .i64 t, .slice rp rn rc, .slice ep 0 ec, .int .i64 0] 65)).alloc (BA 1 l s t))) := hw
  have HA8 : Hid (((w.alloc (.cells #[.int .i64 g, .int .i64 1, .int .i64 l, .int .i64 s, .int .i64 t, .slice rp rn rc, .slice ep 0 ec, .int .i64 0] 65)).alloc (BA 1 l s t)).heap[w.heap.size]? = some (.cells #[.int .i64 g, .int .i64 1, .int .i64 l, .int .i64 s, .int .i64 t, .slice rp rn rc, .slice ep 0 ec, .int .i64 0] 65 (0, 0))) := (Below.heap_alloc _ _ _ (by simp)).trans (heap_alloc_new _ _)
  have HA : Hid (At.right 1 l s t = true) := ha
  have hg1 : ¬ g < 1 := by omega
  have hg2 : ¬ 1099511627776 < g := by omega
  clear hg ha
  have HQ : Hid (decide (Bl.right (-1) rs) = false) := decide_eq_false hq
  clear hr ho hq hw
  go_enter Tryz.func69, Tryz.ntmps69
  go_wp2_with fail
  refine (aright_any _ _ _ _ _).mono ?_
  rintro e w' ⟨rfl, rfl⟩
  rw [HA.out]
  go_wp2_with fail
  refine (bright_any _ rs _ HF.out HO.out).mono ?_
  rintro e w2 ⟨rfl, hb2⟩
  rw [HQ.out]
  have HB2 : Hid (Below w.heap.size w w2) := HW.out.trans (hb2.mono HW.out.size)
  clear hb2
  go_wp2
  go_ret
  exact ⟨rfl, HB2.out⟩
set_option maxHeartbeats 1000000 in
theorem rone_file (g l s t : Int) (rp ep : Option Addr) (rn rc ec : Nat) (w : World) (hg : 1 ≤ g ∧ g ≤ 1099511627776) (ha : At.right 1 l s t = true) (rs : List (Int × ByteArray)) (hr : AtW ER w (.slice rp rn rc) rs) (ho : okFields rs) (hq : Bl.right (-1) rs) :
    Calls Tryz.prog 69 #[.agg #[.int .i64 g, .int .i64 1, .int .i64 l, .int .i64 s, .int .i64 t, .slice rp rn rc, .slice ep 0 ec, .int .i64 0]] w fun e w' => e = .returned (.bool (decide (∀ r ∈ rs, r.1 + r.2.size ≤ s))) ∧ Below w.heap.size w w' := by
  have hw : Below w.heap.size w ((w.alloc (.cells #[.int .i64 g, .int .i64 1, .int .i64 l, .int .i64 s, .int .i64 t, .slice rp rn rc, .slice ep 0 ec, .int .i64 0] 65)).alloc (BA 1 l s t)) := ((Below.refl _ w).alloc (Nat.le_refl _) _).alloc (by simp) _
  have HF : Hid (FieldsAt ((w.alloc (.cells #[.int .i64 g, .int .i64 1, .int .i64 l, .int .i64 s, .int .i64 t, .slice rp rn rc, .slice ep 0 ec, .int .i64 0] 65)).alloc (BA 1 l s t)).heap.size ((w.alloc (.cells #[.int .i64 g, .int .i64 1, .int .i64 l, .int .i64 s, .int .i64 t, .slice rp rn rc, .slice ep 0 ec, .int .i64 0] 65)).alloc (BA 1 l s t)) (.slice rp rn rc) rs) := (hr.up hw).fields
  have HO : Hid (okFields rs) := ho
  have HW : Hid (Below w.heap.size w ((w.alloc (.cells #[.int .i64 g, .int .i64 1, .int .i64 l, .int .i64 s, .int .i64 t, .slice rp rn rc, .slice ep 0 ec, .int .i64 0] 65)).alloc (BA 1 l s t))) := hw
  have HA8 : Hid (((w.alloc (.cells #[.int .i64 g, .int .i64 1, .int .i64 l, .int .i64 s, .int .i64 t, .slice rp rn rc, .slice ep 0 ec, .int .i64 0] 65)).alloc (BA 1 l s t)).heap[w.heap.size]? = some (.cells #[.int .i64 g, .int .i64 1, .int .i64 l, .int .i64 s, .int .i64 t, .slice rp rn rc, .slice ep 0 ec, .int .i64 0] 65 (0, 0))) := (Below.heap_alloc _ _ _ (by simp)).trans (heap_alloc_new _ _)
  have HA : Hid (At.right 1 l s t = true) := ha
  have hg1 : ¬ g < 1 := by omega
  have hg2 : ¬ 1099511627776 < g := by omega
  clear hg ha
  have HQ : Hid (decide (Bl.right (-1) rs) = true) := decide_eq_true hq
  have HQR : Hid (∀ r ∈ rs, -1 < r.1 ∧ r.1 + r.2.size ≤ 1048576) := fun r hr => by
    have := Bl.right_mem hq r hr
    exact ⟨this.2.1, this.2.2⟩
  obtain ⟨res, hres⟩ : ∃ res, decide (∀ r ∈ rs, r.1 + r.2.size ≤ s) = res := ⟨_, rfl⟩
  have HRES : Hid (decide (∀ r ∈ rs, r.1 + r.2.size ≤ s) = res) := hres
  rw [hres]
  obtain ⟨hlen, _⟩ : rn = rs.length ∧ True := by
    obtain ⟨_, _, h1, _⟩ := hr.open
    simp only [Value.slice.injEq] at h1
    exact ⟨h1.2.1, trivial⟩
  have HLN : Hid (rn = rs.length) := hlen
  have hrn : rn ≤ 9223372036854775807 := by
    obtain ⟨_, _, _, h2, _⟩ := hr.open
    unfold maxLen at h2
    omega
  clear hr ho hq hw hres hlen
  go_enter Tryz.func69, Tryz.ntmps69
  go_wp2_with fail
  refine (aright_any _ _ _ _ _).mono ?_
  rintro e w' ⟨rfl, rfl⟩
  rw [HA.out]
  go_wp2_with fail
  refine (bright_any _ rs _ HF.out HO.out).mono ?_
  rintro e w2 ⟨rfl, hb2⟩
  rw [HQ.out]
  have HB2 : Hid (Below w.heap.size w w2) := HW.out.trans (hb2.mono HW.out.size)
  have HA2 : Hid (w2.heap[w.heap.size]? = some (.cells #[.int .i64 g, .int .i64 1, .int .i64 l, .int .i64 s, .int .i64 t, .slice rp rn rc, .slice ep 0 ec, .int .i64 0] 65 (0, 0))) := (hb2.block _ (by simp; omega)).trans HA8.out
  have hF2 := HF.out.up hb2
  obtain ⟨ao', cap', hv', _, hx⟩ := hF2.open
  simp only [Value.slice.injEq] at hv'
  obtain ⟨rfl, -, rfl⟩ := hv'
  have HX : Hid (∀ j, j < rs.length → ∃ b off, rp = some ⟨b, off, none⟩ ∧ b < w2.heap.size ∧ w2.cell? ⟨b, off + j * 2, none⟩ = some (.int .i64 (rs.getD j (0, .empty)).1) ∧ w2.cell? ⟨b, off + j * 2 + 1, none⟩ = some (.string (rs.getD j (0, .empty)).2)) := hx
  have c5 : w2.cell? ⟨w.heap.size, 5, none⟩ = some (.slice rp rn rc) := by simp [World.cell?, HA2.out]
  have HC3 : Hid (w2.cell? ⟨w.heap.size, 3, none⟩ = some (.int .i64 s)) := by show w2.cell? _ = _; simp [World.cell?, HA2.out]
  have hws : w.heap.size < w2.heap.size := (Array.getElem?_eq_some_iff.1 HA2.out).1
  clear hb2 hx hF2
  go_wp2
  go_loopw [55] (fun i wr => ∃ k : Nat, k ≤ rn ∧ i = .int .i64 k ∧ (∀ r ∈ rs.take k, r.1 + r.2.size ≤ s) ∧ Below w2.heap.size w2 wr) (fun i _ => rn - (intOf i).toNat)
  case atStart => exact ⟨0, Nat.zero_le _, rfl, by simp, Below.refl _ _⟩
  case round =>
    obtain ⟨k, hk, rfl, hall, hbl⟩ := hrel
    have HALL : Hid (∀ r ∈ rs.take k, r.1 + r.2.size ≤ s) := hall
    have hsz := hbl.size
    clear hall
    by_cases hlt : k < rn
    · obtain ⟨b, off, rfl, hB, c0, c1⟩ := HX.out k (by rw [← HLN.out]; exact hlt)
      have hk' : k < rs.length := by rw [← HLN.out]; exact hlt
      have hget : rs[k]? = some (rs.getD k (0, .empty)) := by simp [List.getD, hk']
      rw [← hbl.cell (p := ⟨b, off + k * 2, none⟩) hB] at c0
      rw [← hbl.cell (p := ⟨b, off + k * 2 + 1, none⟩) hB] at c1
      have HT := It.take_succ hget
      have hmem := List.mem_of_getElem? hget
      have hbd := HQR.out _ hmem
      generalize rs.getD k (0, .empty) = x at c0 c1 HT hbd hmem hget
      obtain ⟨xa, xs⟩ := x
      simp only at c0 c1 hbd
      obtain ⟨hb0, hb1⟩ := hbd
      have HTT : Hid (rs.take (k + 1) = rs.take k ++ [(xa, xs)] ∧ (xa, xs) ∈ rs) := ⟨HT, hmem⟩
      have d3 : (wr.alloc (.cells #[.int .i64 xa, .string xs] 132)).cell? ⟨w.heap.size, 3, none⟩ = some (.int .i64 s) := by
        rw [World.cell?_alloc_lt _ _ _ (by show w.heap.size < _; omega)]
        exact (hbl.cell (p := ⟨w.heap.size, 3, none⟩) hws).trans HC3.out
      have hlt' : (k : Int) < (rn : Int) := by omega
      clear HT hmem hget hB
      by_cases hc : s < xa + (xs.size : Int)
      · have H : Hid (res = false) := by
          show res = false
          rw [← HRES.out]
          apply decide_eq_false
          intro h
          have := h _ HTT.out.2
          simp only at this
          omega
        go_wp2
        go_ret
        rw [H.out]
        exact ⟨rfl, (HB2.out.trans (hbl.mono HB2.out.size)).alloc (by have := HB2.out.size; omega) _⟩
      · go_wp2
        go_roundw
        case rel =>
          refine ⟨k + 1, by omega, by go_num, fun r hr => ?_, hbl.alloc hsz _⟩
          rw [HTT.out.1, List.mem_append] at hr
          rcases hr with hr | hr
          · exact HALL.out r hr
          · simp at hr
            subst hr
            simp only
            omega
        case measure => simp [intOf]; omega
    · obtain rfl : k = rn := by omega
      have H : Hid (res = true) := by
        show res = true
        rw [← HRES.out]
        apply decide_eq_true
        have := HALL.out
        rwa [HLN.out, List.take_length] at this
      go_wp2
      go_ret
      rw [H.out]
      exact ⟨rfl, HB2.out.trans (hbl.mono HB2.out.size)⟩

theorem rone_any {S : Nat → Prop} (x : Rw) (w : World) (h : Good S w x) : Calls Tryz.prog 69 #[VI x] w fun e w' => e = .returned (.bool (one x.i)) ∧ Below w.heap.size w w' := by
  obtain ⟨hrn, hen⟩ := h.len
  obtain ⟨hr, _, ho, _⟩ := h
  obtain ⟨⟨g, k, l, s, t, rs, es, nx⟩, rp, rn, rc, ep, en, ec⟩ := x
  simp only at hrn hen hr ho ⊢
  by_cases hg : 1 ≤ g ∧ g ≤ 1099511627776
  · cases ha : At.right k l s t with
    | false =>
      rw [one_attr ha]
      exact rone_attr g k l s t nx rp ep rn rc en ec w hg ha
    | true =>
      rcases kind_bd ha with rfl | rfl | rfl
      · rw [one_free hg ha, isEmpty_len es hen, isEmpty_len rs hrn]
        exact rone_free g l s t nx rp ep rn rc en ec w hg ha
      · rw [one_file hg ha, isEmpty_len es hen]
        by_cases hb : en = 0 ∧ nx = 0
        · rw [decide_eq_true hb.1, decide_eq_true hb.2]
          obtain ⟨rfl, rfl⟩ := hb
          by_cases hq : Bl.right (-1) rs
          · have hs0 : 0 ≤ s := by
              rcases At.right_iff.1 ha with h | h
              · omega
              · exact h.1.1
            have e : decide (Bl.endOf rs ≤ s) = decide (∀ r ∈ rs, r.1 + r.2.size ≤ s) := decide_eq_decide.2 (Bl.end_le hq hs0)
            rw [decide_eq_true hq, e]
            exact rone_file g l s t rp ep rn rc ec w hg ha rs hr.wide ho hq
          · rw [decide_eq_false hq]
            exact rone_filebad g l s t rp ep rn rc ec w hg ha rs hr.wide ho hq
        · rw [show (decide (en = 0) && decide (nx = 0)) = false from by simpa using hb]
          exact rone_fileno g l s t nx rp ep rn rc en ec w hg ha hb
      · rw [one_dir hg ha, isEmpty_len rs hrn]
        exact rone_dir g l s t nx rp ep rn rc en ec w hg ha
  · rw [one_gen hg]
    by_cases h1 : g < 1
    · exact rone_lo g k l s t nx rp ep rn rc en ec w h1
    · exact rone_hi g k l s t nx rp ep rn rc en ec w h1 (by omega)
end Go.Proofs.YtacghcoikekfeaaGreat
/- RefA -/
namespace Go.Proofs.YtacghcoikekfeaaGreat
open Go.ChangeShapes Go.WideShapes Go.ChangeAt Go.RowKit Go.Deep It
set_option maxRecDepth 100000

theorem It.not_right {L : List Ino} (h : It.right L = true → False) : It.right L = false := by
  cases hr : It.right L with
  | false => rfl
  | true => exact absurd hr h
set_option maxHeartbeats 1000000 in
theorem rright_any {S : Nat → Prop} (v : Value) (L : List Rw) (w : World) (hv : TabAt S w v L) :
    Calls Tryz.prog 35 #[v] w fun e w' => e = .returned (.bool (It.right (pl L))) ∧ Below w.heap.size w w' := by
  obtain ⟨ao, cap, rfl, hm, hx⟩ := hv.open
  clear hv
  unfold maxLen at hm
  obtain ⟨n, hn⟩ : ∃ n, L.length = n := ⟨_, rfl⟩
  rw [hn] at hm ⊢
  have HN : Hid (L.length = n) := hn
  have HX : Hid (∀ i x, L[i]? = some x → (∃ b off, ao = some ⟨b, off, none⟩ ∧ b < w.heap.size ∧ eight w b (off + i * 8) x) ∧ Good S w x) := hx
  clear hn hx
  obtain ⟨res, hres⟩ : ∃ res, It.right (pl L) = res := ⟨_, rfl⟩
  have HRES : Hid (It.right (pl L) = res) := hres
  rw [hres]
  clear hres
  by_cases hr : 1 ≤ n ∧ n ≤ 24
  · have h0 : L[0]? = some (L[0]'(by have := HN.out; omega)) := List.getElem?_eq_getElem _
    obtain ⟨x, hx0⟩ : ∃ x, L[0]? = some x := ⟨_, h0⟩
    clear h0
    obtain ⟨⟨b, off, rfl, hB, hc⟩, hg⟩ := HX.out 0 x hx0
    have c1 := hc.2.1
    simp only [Nat.zero_mul, Nat.add_zero] at c1
    have hn1 : ¬ (n : Int) < 1 := by omega
    have hn2 : ¬ (24 : Int) < (n : Int) := by omega
    have hn0 : (0 : Int) < (n : Int) := by omega
    by_cases hk : x.i.kind = 2
    · have HR0 : Hid (rootB (pl L) = true) := by
        cases L with
        | nil => simp at hx0
        | cons y l =>
          simp at hx0
          subst hx0
          exact decide_eq_true hk
      rw [hk] at c1
      clear hc hg hk
      go_enter Tryz.func35, Tryz.ntmps35
      go_wp2
      go_loopw [23] (fun i wr => ∃ k : Nat, k ≤ n ∧ i = .int .i64 k ∧ (∀ y ∈ L.take k, one y.i = true) ∧ Below w.heap.size w wr) (fun i _ => n - (intOf i).toNat)
      case atStart => exact ⟨0, Nat.zero_le _, rfl, by simp, Below.refl _ _⟩
      case round =>
        obtain ⟨k, hk, rfl, hall, hbl⟩ := hrel
        have HALL : Hid (∀ y ∈ L.take k, one y.i = true) := hall
        clear hall
        have hsz := hbl.size
        by_cases hlt : k < n
        · have h0 : L[k]? = some (L[k]'(by have := HN.out; omega)) := List.getElem?_eq_getElem _
          obtain ⟨y, hyk⟩ : ∃ y, L[k]? = some y := ⟨_, h0⟩
          clear h0
          obtain ⟨⟨b', off', hbe, hB', hc'⟩, hg'⟩ := HX.out k y hyk
          cases hbe
          obtain ⟨d0, d1, d2, d3, d4, d5, d6, d7⟩ := hc'.below hbl hB'
          have HGY : Hid (Good S wr y) := hg'.up hbl
          have HT : Hid (L.take (k + 1) = L.take k ++ [y]) := It.take_succ hyk
          have HMY : Hid (y ∈ L) := List.mem_of_getElem? hyk
          have hlt' : (k : Int) < (n : Int) := by omega
          clear hyk hc' hg'
          go_wp2_with fail
          refine (rone_any y _ (HGY.out.up ((Below.refl _ _).alloc (Nat.le_refl _) _))).mono ?_
          rintro e w2 ⟨rfl, hb2⟩
          have HB2 : Hid (Below w.heap.size w w2) := (hbl.alloc hsz _).trans (hb2.mono (by simp; omega))
          clear hb2
          cases ho : one y.i with
          | false =>
            have HE : Hid (res = false) := by
              show res = false
              rw [← HRES.out]
              exact It.not_right fun h => by
                have := (It.right_iff.1 h).2.2 y.i (List.mem_map.2 ⟨y, HMY.out, rfl⟩)
                rw [ho] at this
                cases this
            clear ho
            go_wp2
            go_ret
            rw [HE.out]
            exact ⟨rfl, HB2.out⟩
          | true =>
            have HO : Hid (one y.i = true) := ho
            clear ho
            go_wp2
            go_roundw
            case rel =>
              refine ⟨k + 1, by omega, by go_num, fun z hz => ?_, HB2.out⟩
              rw [HT.out, List.mem_append] at hz
              rcases hz with hz | hz
              · exact HALL.out z hz
              · simp at hz
                subst hz
                exact HO.out
            case measure => simp [intOf]; omega
        · obtain rfl : k = n := by omega
          have HE : Hid (res = true) := by
            show res = true
            rw [← HRES.out]
            refine It.right_iff.2 ⟨?_, HR0.out, fun z hz => ?_⟩
            · have := HN.out
              simp only [pl, List.length_map]
              omega
            · obtain ⟨y, hy, rfl⟩ := List.mem_map.1 hz
              refine HALL.out y ?_
              rw [← HN.out, List.take_length]
              exact hy
          go_wp2
          go_ret
          rw [HE.out]
          exact ⟨rfl, hbl⟩
    · have hk' : (x.i.kind != 2) = true := by simp [hk]
      have HE : Hid (res = false) := by
        show res = false
        rw [← HRES.out]
        exact It.not_right fun h => by
          have := (It.right_iff.1 h).2.1
          cases L with
          | nil => simp at hx0
          | cons y l =>
            simp at hx0
            subst hx0
            exact hk (of_decide_eq_true this)
      clear hc hg hk
      go_enter Tryz.func35, Tryz.ntmps35
      go_wp2
      go_ret
      rw [HE.out]
      exact ⟨rfl, Below.refl _ _⟩
  · have HE : Hid (res = false) := by
      show res = false
      rw [← HRES.out]
      exact It.not_right fun h => by
        have := (It.right_iff.1 h).1
        simp only [pl, List.length_map] at this
        have := HN.out
        omega
    have hor : (n : Int) < 1 ∨ (¬ (n : Int) < 1 ∧ (24 : Int) < (n : Int)) := by omega
    clear hr
    rcases hor with h1 | ⟨h1, h2⟩
    all_goals
      go_enter Tryz.func35, Tryz.ntmps35
      go_wp2
      go_ret
      rw [HE.out]
      exact ⟨rfl, Below.refl _ _⟩

set_option maxHeartbeats 2000000 in
theorem rnames_any {S : Nat → Prop} (v : Value) (L : List Rw) (a b : Int) (w : World) (hv : TabAt S w v L) :
    Calls Tryz.prog 37 #[v, .agg #[.int .i64 a, .int .i64 b]] w fun e w' => e = .returned (.bool (names (pl L) a b)) ∧ Below w.heap.size w w' := by
  obtain ⟨ao, cap, rfl, hm, hx⟩ := hv.open
  clear hv
  unfold maxLen at hm
  obtain ⟨n, hn⟩ : ∃ n, L.length = n := ⟨_, rfl⟩
  rw [hn] at hm ⊢
  have HN : Hid (L.length = n) := hn
  have HX : Hid (∀ i x, L[i]? = some x → (∃ b off, ao = some ⟨b, off, none⟩ ∧ b < w.heap.size ∧ eight w b (off + i * 8) x) ∧ Good S w x) := hx
  obtain ⟨W, hW⟩ : ∃ W, W = w.alloc (BH a b) := ⟨_, rfl⟩
  have HB0 : Hid (Below w.heap.size w W) := by show Below w.heap.size w W; rw [hW]; exact (Below.refl _ w).alloc (Nat.le_refl _) _
  have HA0 : Hid (W.heap[w.heap.size]? = some (BH a b)) := by show W.heap[w.heap.size]? = _; rw [hW]; exact heap_alloc_new _ _
  have hws : w.heap.size < W.heap.size := by rw [hW]; simp
  obtain ⟨res, hres⟩ : ∃ res, names (pl L) a b = res := ⟨_, rfl⟩
  have HRES : Hid (names (pl L) a b = res) := hres
  rw [hres]
  clear hn hx hres
  go_enter Tryz.func37, Tryz.ntmps37
  go_wp2
  rw [← hW]
  clear hW
  go_loopw [9] (fun i wr => ∃ k : Nat, k ≤ n ∧ i = .int .i64 k ∧ (∀ j x, j < k → L[j]? = some x → ¬ ((j : Int) = a ∧ x.i.gen = b ∧ x.i.kind ≠ 0)) ∧ Below W.heap.size W wr) (fun i _ => n - (intOf i).toNat)
  case atStart => exact ⟨0, Nat.zero_le _, rfl, fun j x hj => by omega, Below.refl _ _⟩
  case round =>
    obtain ⟨k, hk, rfl, hno, hbl⟩ := hrel
    have HNO : Hid (∀ j x, j < k → L[j]? = some x → ¬ ((j : Int) = a ∧ x.i.gen = b ∧ x.i.kind ≠ 0)) := hno
    have hsz := hbl.size
    have HBW : Hid (Below w.heap.size w wr) := HB0.out.trans (hbl.mono HB0.out.size)
    have HA1 : Hid (wr.heap[w.heap.size]? = some (BH a b)) := (hbl.block _ hws).trans HA0.out
    clear hno
    by_cases hlt : k < n
    · obtain ⟨y, hyk⟩ : ∃ y, L[k]? = some y := ⟨_, List.getElem?_eq_getElem (by rw [HN.out]; exact hlt)⟩
      obtain ⟨⟨b', off, rfl, hB, hc⟩, _⟩ := HX.out k y hyk
      obtain ⟨d0, d1, d2, d3, d4, d5, d6, d7⟩ := hc.below HBW.out hB
      have HYK : Hid (L[k]? = some y) := hyk
      have HNEXT : ¬ ((k : Int) = a ∧ y.i.gen = b ∧ y.i.kind ≠ 0) → Hid (∀ j x, j < k + 1 → L[j]? = some x → ¬ ((j : Int) = a ∧ x.i.gen = b ∧ x.i.kind ≠ 0)) := fun hne j x hj hx hq => by
        rcases Nat.lt_or_ge j k with h | h
        · exact HNO.out j x h hx hq
        · obtain rfl : j = k := by omega
          rw [HYK.out] at hx
          cases hx
          exact hne hq
      have HYES : ((k : Int) = a ∧ y.i.gen = b ∧ y.i.kind ≠ 0) → Hid (res = true) := fun hq => by
        show res = true
        rw [← HRES.out]
        exact It.names_iff.2 ⟨k, y.i, It.pl_get HYK.out, hq.1.symm, hq.2.1, hq.2.2⟩
      obtain ⟨⟨g, kk, l, s, t, rs, es, nx⟩, rp, rn, rc, ep, en, ec⟩ := y
      simp only at d0 d1 d2 d3 d4 d5 d6 d7 HNEXT HYES
      have HA2 : Hid ((wr.alloc (B8 g kk l s t (.slice rp rn rc) (.slice ep en ec) nx)).heap[w.heap.size]? = some (BH a b)) := (Below.heap_alloc _ _ _ (by omega)).trans HA1.out
      obtain ⟨⟨a0, a1⟩, _⟩ := two_of HA2.out
      have hlt' : (k : Int) < (n : Int) := by omega
      clear hyk hc hB HYK
      by_cases h1 : (k : Int) = a
      · by_cases h2 : g = b
        · by_cases h3 : kk = 0
          · have HN2 := HNEXT (fun h => h.2.2 h3)
            have h1' : ((k : Int) == a) = true := by simp [h1]
            have h2' : (g == b) = true := by simp [h2]
            have h3' : (kk != 0) = false := by simp [h3]
            clear h1 h2 h3 HNEXT HYES
            go_wp2
            go_roundw
            case rel => exact ⟨k + 1, by omega, by go_num, HN2.out, hbl.alloc hsz _⟩
            case measure => simp [intOf]; omega
          · have HE := HYES ⟨h1, h2, h3⟩
            have h1' : ((k : Int) == a) = true := by simp [h1]
            have h2' : (g == b) = true := by simp [h2]
            have h3' : (kk != 0) = true := by simp [h3]
            clear h1 h2 h3 HNEXT HYES
            go_wp2
            go_ret
            rw [HE.out]
            exact ⟨rfl, HBW.out.alloc HBW.out.size _⟩
        · have HN2 := HNEXT (fun h => h2 h.2.1)
          have h1' : ((k : Int) == a) = true := by simp [h1]
          have h2' : (g == b) = false := by simp [h2]
          clear h1 h2 HNEXT HYES
          go_wp2
          go_roundw
          case rel => exact ⟨k + 1, by omega, by go_num, HN2.out, hbl.alloc hsz _⟩
          case measure => simp [intOf]; omega
      · have HN2 := HNEXT (fun h => h1 h.1)
        have h1' : ((k : Int) == a) = false := by simp [h1]
        clear h1 HNEXT HYES
        go_wp2
        go_roundw
        case rel => exact ⟨k + 1, by omega, by go_num, HN2.out, hbl.alloc hsz _⟩
        case measure => simp [intOf]; omega
    · obtain rfl : k = n := by omega
      have HE : Hid (res = false) := by
        show res = false
        rw [← HRES.out]
        cases hq : names (pl L) a b with
        | false => rfl
        | true =>
          obtain ⟨j, y, hja, hy, hyg, hyk, hjl⟩ := It.named hq
          exact absurd ⟨hja.symm, hyg, hyk⟩ (HNO.out j y (by rw [← HN.out]; exact hjl) hy)
      go_wp2
      go_ret
      rw [HE.out]
      exact ⟨rfl, HBW.out⟩

end Go.Proofs.YtacghcoikekfeaaGreat
/- SRef1 -/
namespace Go.Proofs.YtacghcoikekfeaaGreat
open Go.ChangeShapes Go.WideShapes Go.ChangeAt Go.RowKit Go.Deep It
set_option maxRecDepth 100000
set_option maxHeartbeats 2000000 in
theorem rstamp_any {S : Nat → Prop} (v : Value) (L : List Rw) (w : World) (hv : TabAt S w v L) :
    Calls Tryz.prog 86 #[v] w fun e w' => e = .returned (.int .i64 (Sp.top (pl L))) ∧ Below w.heap.size w w' := by
  obtain ⟨ao, cap, rfl, hm, hx⟩ := hv.open
  clear hv
  unfold maxLen at hm
  obtain ⟨n, hn⟩ : ∃ n, L.length = n := ⟨_, rfl⟩
  rw [hn] at hm ⊢
  have HN : Hid (L.length = n) := hn
  have HX : Hid (∀ i x, L[i]? = some x → (∃ b off, ao = some ⟨b, off, none⟩ ∧ b < w.heap.size ∧ eight w b (off + i * 8) x) ∧ Good S w x) := hx
  obtain ⟨r, hr⟩ : ∃ r, Sp.top (pl L) = r := ⟨_, rfl⟩
  have HR : Hid (Sp.top (pl L) = r) := hr
  rw [hr]
  clear hr hn hx
  go_enter Tryz.func86, Tryz.ntmps86
  go_wp2
  go_loopw [3, 8] (fun g i wr => ∃ k : Nat, k ≤ n ∧ i = .int .i64 k ∧ g = .int .i64 (Sp.top (pl (L.take k))) ∧ Hid (Below w.heap.size w wr)) (fun _ i _ => n - (intOf i).toNat)
  case atStart => exact ⟨0, Nat.zero_le _, rfl, rfl, Below.refl _ _⟩
  case round =>
    obtain ⟨k, hk, rfl, rfl, HB⟩ := hrel
    have hsz := HB.out.size
    obtain ⟨g, hg⟩ : ∃ g, Sp.top (pl (L.take k)) = g := ⟨_, rfl⟩
    have HGG : Hid (Sp.top (pl (L.take k)) = g) := hg
    rw [hg]
    clear hg
    by_cases hlt : k < n
    · obtain ⟨x, hxk⟩ : ∃ x, L[k]? = some x := ⟨_, List.getElem?_eq_getElem (by rw [HN.out]; exact hlt)⟩
      have HXK : Hid (L[k]? = some x) := hxk
      obtain ⟨⟨b, off, rfl, hB, hc⟩, -⟩ := HX.out k x hxk
      obtain ⟨c0, c1, c2, c3, c4, c5, c6, c7⟩ := hc.below HB.out hB
      have hlt' : (k : Int) < (n : Int) := by omega
      clear hc hxk
      by_cases hgt : g < x.i.stamp
      · have HT : Hid (Sp.top (pl (L.take (k + 1))) = x.i.stamp) := by show Sp.top (pl (L.take (k + 1))) = _; rw [Sp.top_step HXK.out, HGG.out]; omega
        go_wp2
        go_roundw
        case rel => exact ⟨k + 1, by omega, by go_num, by rw [HT.out], HB.out.alloc hsz _⟩
        case measure => simp [intOf]; omega
      · have HT : Hid (Sp.top (pl (L.take (k + 1))) = g) := by show Sp.top (pl (L.take (k + 1))) = _; rw [Sp.top_step HXK.out, HGG.out]; omega
        go_wp2
        go_roundw
        case rel => exact ⟨k + 1, by omega, by go_num, by rw [HT.out], HB.out.alloc hsz _⟩
        case measure => simp [intOf]; omega
    · obtain rfl : k = n := by omega
      have HT : Hid (r = g) := by
        show r = g
        rw [← HGG.out, List.take_of_length_le (by rw [HN.out]; exact Nat.le_refl _), HR.out]
      go_wp2
      go_ret
      rw [HT.out]
      exact ⟨rfl, HB.out⟩
/-- What sextonref11.Right answers: proved elsewhere. -/
def RtSaid (R : List Ino → Bool) : Prop := ∀ (S : Nat → Prop) (v : Value) (L : List Rw) (w : World), TabAt S w v L → Sp.okN L → Calls Tryz.prog 11 #[v] w fun e w' => e = .returned (.bool (R (pl L))) ∧ Below w.heap.size w w'
def Sp.chk (R : List Ino → Bool) (L : List Ino) : Int := if R L = true then 0 else 4
set_option maxHeartbeats 2000000 in
theorem rasked_any {R : List Ino → Bool} (hR : RtSaid R) {S : Nat → Prop} (v : Value) (L : List Rw) (st : Int) (w : World) (hv : TabAt S w v L) (hok : Sp.okN L) :
    Calls Tryz.prog 48 #[v, .int .i64 st] w fun e w' => e = .returned (.int .i64 (Sp.stErr (Sp.chk R) (pl L) st)) ∧ Below w.heap.size w w' := by
  obtain ⟨i, hi⟩ : ∃ i, R (pl L) = i := ⟨_, rfl⟩
  have HC : Hid (Calls Tryz.prog 11 #[v] w fun e w' => e = .returned (.bool i) ∧ Below w.heap.size w w') := by rw [← hi]; exact hR S v L w hv hok
  have HV : Hid (TabAt S w v L) := hv
  obtain ⟨ao, cap, rfl, -, -⟩ := hv.open
  clear hv hok hR
  obtain ⟨t, ht⟩ : ∃ t, Sp.top (pl L) = t := ⟨_, rfl⟩
  have HT : Hid (Sp.top (pl L) = t) := ht
  cases i
  · have hE : Sp.stErr (Sp.chk R) (pl L) st = 4 := by unfold Sp.stErr Sp.chk; rw [hi]; rfl
    rw [hE]
    clear hE hi ht
    go_enter Tryz.func48, Tryz.ntmps48
    go_wp2_with fail
    refine HC.out.mono ?_
    rintro e w1 ⟨rfl, hb1⟩
    have HB1 : Hid (Below w.heap.size w w1) := hb1
    clear hb1
    go_wp2
    go_ret
    exact ⟨rfl, HB1.out⟩
  · have hE : Sp.stErr (Sp.chk R) (pl L) st = if t ≤ st ∧ st ≤ 1099511627776 then 0 else 1 := by unfold Sp.stErr Sp.chk; rw [hi, ht]; rfl
    obtain ⟨r, hr⟩ : ∃ r, Sp.stErr (Sp.chk R) (pl L) st = r := ⟨_, rfl⟩
    have HE : Hid (r = if t ≤ st ∧ st ≤ 1099511627776 then 0 else 1) := by rw [← hr]; exact hE
    rw [hr]
    clear hE hr hi ht
    go_enter Tryz.func48, Tryz.ntmps48
    go_wp2_with fail
    refine HC.out.mono ?_
    rintro e w1 ⟨rfl, hb1⟩
    have HB1 : Hid (Below w.heap.size w w1) := hb1
    clear hb1
    go_wp2_with fail
    refine (rstamp_any _ L _ (HV.out.up HB1.out)).mono ?_
    rintro e w2 ⟨rfl, hb2⟩
    rw [HT.out]
    have HB2 : Hid (Below w.heap.size w w2) := HB1.out.trans (hb2.mono HB1.out.size)
    clear hb2
    by_cases h1 : st < t
    · have H : Hid (r = 1) := by show r = 1; rw [HE.out, if_neg (by omega)]
      go_wp2
      go_ret
      rw [H.out]
      exact ⟨rfl, HB2.out⟩
    · by_cases h2 : 1099511627776 < st
      · have H : Hid (r = 1) := by show r = 1; rw [HE.out, if_neg (by omega)]
        go_wp2
        go_ret
        rw [H.out]
        exact ⟨rfl, HB2.out⟩
      · have H : Hid (r = 0) := by show r = 0; rw [HE.out, if_pos (by omega)]
        go_wp2
        go_ret
        rw [H.out]
        exact ⟨rfl, HB2.out⟩
end Go.Proofs.YtacghcoikekfeaaGreat
/- FTwo -/
namespace Go.Proofs.YtacghcoikekfeaaGreat
open Go.ChangeShapes Go.WideShapes Go.ChangeAt Go.RowKit Go.Deep
set_option maxRecDepth 100000
namespace Fo
abbrev sa : ByteArray := ⟨#[97]⟩
abbrev sb : ByteArray := ⟨#[98]⟩
abbrev ea : Ent := (sa, 1, 1, 1)
abbrev eb : Ent := (sb, 2, 1, 1)
theorem ok_a : Nm.ok sa := ⟨by decide, by decide, fun h => by simp [sa] at h, fun h => by simp [sa] at h, fun i h _ => by
  have : i = 0 := by simp [ByteArray.size] at h; exact h
  subst this
  exact ⟨by show (97 : UInt8).toNat ≠ 47; decide, by show (97 : UInt8).toNat ≠ 0; decide⟩⟩
theorem ok_b : Nm.ok sb := ⟨by decide, by decide, fun h => by simp [sb] at h, fun h => by simp [sb] at h, fun i h _ => by
  have : i = 0 := by simp [ByteArray.size] at h; exact h
  subst this
  exact ⟨by show (98 : UInt8).toNat ≠ 47; decide, by show (98 : UInt8).toNat ≠ 0; decide⟩⟩
theorem ho_one : Ho 1 1 := by decide
theorem right_0 : Right [] 0 := ⟨by decide, fun i h => by simp at h, List.nodup_nil⟩
theorem good_a (l : List Ent) (next : Int) (h : 1 ≤ next) : good next (ea :: l) 0 := fun x hx => by
  simp at hx
  subst hx
  exact ⟨ok_a, ⟨by simp [lastC], h⟩, ho_one⟩
theorem right_1 : Right [ea] 1 := ⟨by decide, fun i h => by
  have : i = 0 := by simp at h; exact h
  subst this
  exact good_a [] 1 (by decide), by simp [apart]⟩
theorem right_2 : Right [ea, eb] 2 := ⟨by decide, fun i h => by
  simp at h
  rcases (show i = 0 ∨ i = 1 by omega) with rfl | rfl
  · exact good_a _ 2 (by decide)
  · intro x hx
    simp at hx
    subst hx
    exact ⟨ok_b, ⟨by simp [lastC], by simp⟩, ho_one⟩, by simp [apart]⟩
theorem right_3 : Right [eb] 2 := ⟨by decide, fun i h => by
  have : i = 0 := by simp at h; exact h
  subst this
  intro x hx
  simp at hx
  subst hx
  exact ⟨ok_b, ⟨by simp [lastC], by simp⟩, ho_one⟩, by simp [apart]⟩
theorem ask_zero {l : List Ent} {next : Int} {s : ByteArray} (h : Right l next) (k : Nm.ok s) : ask l next s = 0 := (ask_right (err_ok h)).trans (Nm.err_ok k)
theorem aa : called sa ea = true := by simp [called]
theorem ab : called sa eb = false := by simp [called, ByteArray.toList_eq]
theorem ba : called sb ea = false := by simp [called, ByteArray.toList_eq]
theorem bb : called sb eb = true := by simp [called]
theorem add1 : addErr [] 0 sa 1 1 = 0 := add_ok (ask_zero right_0 ok_a) ho_one (at_miss fun j y h => by simp at h) (by decide)
theorem add2 : addErr [ea] 1 sb 1 1 = 0 := add_ok (ask_zero right_1 ok_b) ho_one (at_miss fun j y h hy => by
  have : j = 0 := by simp at h; exact h
  subst this
  simp at hy
  subst hy
  exact ba) (by decide)
theorem rem1 : findErr [ea, eb] 2 sa = 0 ∧ plc [ea, eb] 2 sa = (0 : Nat) := findErr_hit (ask_zero right_2 ok_a) (at_hit (x := ea) rfl aa fun j y h => by omega)
theorem find1 : findErr [eb] 2 sb = 0 ∧ plc [eb] 2 sb = (0 : Nat) := findErr_hit (ask_zero right_3 ok_b) (at_hit (x := eb) rfl bb fun j y h => by omega)
theorem find1' : found [eb] 2 sb = eb := found_hit find1.1 find1.2 rfl
theorem find2 : findErr [eb] 2 sa = 402 := (findErr_miss (ask_zero right_3 ok_a) (at_miss fun j y h hy => by
  have : j = 0 := by simp at h; exact h
  subst this
  simp at hy
  subst hy
  exact ab)).1
end Fo
theorem hand_cells (w : World) : (w.alloc (BHf 1 1)).cell? ⟨w.heap.size, 0, none⟩ = some (.int .i64 1) ∧ (w.alloc (BHf 1 1)).cell? ⟨w.heap.size, 1, none⟩ = some (.int .i64 1) := by
  have hh := heap_alloc_new w (BHf 1 1)
  constructor <;> simp only [World.cell?, hh] <;> rfl
theorem small (x : Ent) (l : List Ent) (h : x.1.size ≤ 32 ∧ ∀ y ∈ l, y.1.size ≤ 32) : ∀ y ∈ x :: l, y.1.size ≤ maxLen := fun y hy => by
  rcases List.mem_cons.1 hy with rfl | hy
  · exact Nat.le_trans h.1 (by decide)
  · exact Nat.le_trans (h.2 y hy) (by decide)
end Go.Proofs.YtacghcoikekfeaaGreat
/- FRefA -/
namespace Go.Proofs.YtacghcoikekfeaaGreat
open Go.ChangeShapes Go.WideShapes Go.ChangeAt Go.RowKit Go.Deep
set_option maxRecDepth 100000
set_option maxHeartbeats 1000000 in
theorem rname_any (s : ByteArray) (w : World) (hm : s.size ≤ maxLen) : Calls Tryz.prog 70 #[.string s] w fun e w' => e = .returned (.int .i64 (Nm.err s)) ∧ w' = w := by
  unfold maxLen at hm
  by_cases h1 : s.size < 1
  · have H : Hid (Nm.err s = 409) := Nm.err_no fun h => by have := h.1; omega
    rw [H.out]
    have h1' : (s.size : Int) < 1 := by omega
    go_enter Tryz.func70, Tryz.ntmps70
    go_wp2
    go_ret
    exact ⟨rfl, rfl⟩
  by_cases h2 : 32 < s.size
  · have H : Hid (Nm.err s = 409) := Nm.err_no fun h => by have := h.2.1; omega
    rw [H.out]
    have h1' : ¬ (s.size : Int) < 1 := by omega
    have h2' : (32 : Int) < (s.size : Int) := by omega
    go_enter Tryz.func70, Tryz.ntmps70
    go_wp2
    go_ret
    exact ⟨rfl, rfl⟩
  by_cases h3 : s = ⟨#[46]⟩
  · have H : Hid (Nm.err s = 409) := Nm.err_no fun h => h.2.2.1 h3
    rw [H.out]
    subst h3
    go_enter Tryz.func70, Tryz.ntmps70
    go_wp2
    go_ret
    exact ⟨rfl, rfl⟩
  by_cases h4 : s = ⟨#[46, 46]⟩
  · have H : Hid (Nm.err s = 409) := Nm.err_no fun h => h.2.2.2.1 h4
    rw [H.out]
    subst h4
    go_enter Tryz.func70, Tryz.ntmps70
    go_wp2
    go_ret
    exact ⟨rfl, rfl⟩
  have H2 : Hid (1 ≤ s.size ∧ s.size ≤ 32 ∧ s ≠ ⟨#[46]⟩ ∧ s ≠ ⟨#[46, 46]⟩) := ⟨by omega, by omega, h3, h4⟩
  have e2 : (s.toList == [46]) = false := beq_eq_false_iff_ne.2 (toList_ne h3)
  have e3 : (s.toList == [46, 46]) = false := beq_eq_false_iff_ne.2 (toList_ne h4)
  have g1 : ¬ (s.size : Int) < 1 := by omega
  have g2 : ¬ (32 : Int) < (s.size : Int) := by omega
  clear h1 h2 h3 h4
  go_enter Tryz.func70, Tryz.ntmps70
  go_wp2
  go_loopw [3] (fun i wr => ∃ k : Nat, k ≤ s.size ∧ i = .int .i64 k ∧ wr = w ∧ Hid (Nm.clean s k)) (fun i _ => s.size - (intOf i).toNat)
  case atStart => exact ⟨0, Nat.zero_le _, rfl, rfl, Nm.clean_zero s⟩
  case round =>
    obtain ⟨k, hk, rfl, rfl, HC⟩ := hrel
    by_cases hlt : k < s.size
    · have hlt' : (k : Int) < (s.size : Int) := by omega
      obtain ⟨c, hc⟩ : ∃ c, s[k]'hlt = c := ⟨_, rfl⟩
      by_cases c1 : c.toNat = 47
      · have H : Hid (Nm.err s = 409) := Nm.err_no (Nm.clean_bad hlt (.inl (by rw [hc]; exact c1)))
        have c1' : ((c.toNat : Int) == 47) = true := by simp [c1]
        go_wp2
        go_ret
        rw [H.out]
        exact ⟨rfl, rfl⟩
      · have c1' : ((c.toNat : Int) == 47) = false := beq_eq_false_iff_ne.2 (by omega)
        by_cases c0 : c.toNat = 0
        · have H : Hid (Nm.err s = 409) := Nm.err_no (Nm.clean_bad hlt (.inr (by rw [hc]; exact c0)))
          have c0' : ((c.toNat : Int) == 0) = true := by simp [c0]
          go_wp2
          go_ret
          rw [H.out]
          exact ⟨rfl, rfl⟩
        · have c0' : ((c.toNat : Int) == 0) = false := beq_eq_false_iff_ne.2 (by omega)
          have HC2 : Hid (Nm.clean s (k + 1)) := Nm.clean_succ hlt HC.out (by rw [hc]; exact c1) (by rw [hc]; exact c0)
          go_wp2
          go_roundw
          case rel => exact ⟨k + 1, by omega, by go_num, trivial, HC2⟩
          case measure => simp [intOf]; omega
    · have H : Hid (Nm.err s = 0) := Nm.err_ok ⟨H2.out.1, H2.out.2.1, H2.out.2.2.1, H2.out.2.2.2, by
        have := HC.out
        rwa [show k = s.size by omega] at this⟩
      have hlt' : ¬ (k : Int) < (s.size : Int) := by omega
      go_wp2
      go_ret
      rw [H.out]
      exact ⟨rfl, rfl⟩
theorem rto_any (no gen : Int) (w : World) : Calls Tryz.prog 72 #[VHf no gen] w fun e w' => e = .returned (.bool (decide (Ho no gen))) ∧ w' = w.alloc (BHf no gen) := by
  by_cases h1 : 0 ≤ no
  · by_cases h2 : no < 24
    · by_cases h3 : 1 ≤ gen
      · by_cases h4 : gen ≤ 1099511627776
        · rw [decide_eq_true (show Ho no gen from ⟨⟨h1, by omega⟩, h3, h4⟩)]
          go_enter Tryz.func72, Tryz.ntmps72
          go_wp2
          go_ret
          exact ⟨rfl, rfl⟩
        · rw [decide_eq_false (show ¬ Ho no gen from fun h => h4 h.2.2)]
          go_enter Tryz.func72, Tryz.ntmps72
          go_wp2
          go_ret
          exact ⟨rfl, rfl⟩
      · rw [decide_eq_false (show ¬ Ho no gen from fun h => h3 h.2.1)]
        go_enter Tryz.func72, Tryz.ntmps72
        go_wp2
        go_ret
        exact ⟨rfl, rfl⟩
    · rw [decide_eq_false (show ¬ Ho no gen from fun h => h2 (by have := h.1.2; omega))]
      go_enter Tryz.func72, Tryz.ntmps72
      go_wp2
      go_ret
      exact ⟨rfl, rfl⟩
  · rw [decide_eq_false (show ¬ Ho no gen from fun h => h1 h.1.1)]
    go_enter Tryz.func72, Tryz.ntmps72
    go_wp2
    go_ret
    exact ⟨rfl, rfl⟩
set_option maxHeartbeats 1000000 in
theorem rplace_any (v : Value) (l : List Ent) (s : ByteArray) (w : World) (hv : AtW EE w v l) :
    Calls Tryz.prog 71 #[v, .string s] w fun e w' => e = .returned (.int .i64 (Fo.at' (Fo.called s) l)) ∧ Below w.heap.size w w' := by
  obtain ⟨ao, cap, rfl, hm, hx⟩ := hv.open
  clear hv
  unfold maxLen at hm
  obtain ⟨n, hn⟩ : ∃ n, l.length = n := ⟨_, rfl⟩
  rw [hn] at hm ⊢
  have HN : Hid (l.length = n) := hn
  have HX : Hid (∀ i x, l[i]? = some x → ∃ b off, ao = some ⟨b, off, none⟩ ∧ True ∧ b < w.heap.size ∧ ∀ k u, (EE.cells x)[k]? = some u → w.cell? ⟨b, off + (i * EE.sz + k), none⟩ = some u) := hx
  clear hn hx
  go_enter Tryz.func71, Tryz.ntmps71
  go_wp2
  go_loopw [9] (fun i wr => ∃ k : Nat, k ≤ n ∧ i = .int .i64 k ∧ Hid (∀ j y, j < k → l[j]? = some y → Fo.called s y = false) ∧ Hid (Below w.heap.size w wr)) (fun i _ => n - (intOf i).toNat)
  case atStart => exact ⟨0, Nat.zero_le _, rfl, fun j y hj => by omega, Below.refl _ _⟩
  case round =>
    obtain ⟨k, hk, rfl, HP, HB⟩ := hrel
    by_cases hlt : k < n
    · obtain ⟨x, hxk⟩ : ∃ x, l[k]? = some x := ⟨_, List.getElem?_eq_getElem (by rw [HN.out]; exact hlt)⟩
      have HXK : Hid (l[k]? = some x) := hxk
      obtain ⟨b2, off, rfl, -, hB, hcx⟩ := HX.out k x hxk
      have a := fun j u hj => (HB.out.cell (p := ⟨b2, off + (k * EE.sz + j), none⟩) hB).trans (hcx j u hj)
      have c0 : wr.cell? ⟨b2, off + k * 4, none⟩ = some (.string x.1) := a 0 _ rfl
      have c1 : wr.cell? ⟨b2, off + k * 4 + 1, none⟩ = some (.int .i64 x.2.1) := a 1 _ rfl
      have c2 : wr.cell? ⟨b2, off + k * 4 + 2, none⟩ = some (.int .i64 x.2.2.1) := a 2 _ rfl
      have c3 : wr.cell? ⟨b2, off + k * 4 + 3, none⟩ = some (.int .i64 x.2.2.2) := a 3 _ rfl
      have hsz := HB.out.size
      clear a hcx hxk
      have hlt' : (k : Int) < (n : Int) := by omega
      cases hp : Fo.called s x with
      | true =>
        have HA : Hid (Fo.at' (Fo.called s) l = k) := Fo.at_hit HXK.out hp HP.out
        have ht : (x.1.toList == s.toList) = true := hp
        clear hp
        go_wp2
        go_ret
        rw [HA.out]
        exact ⟨rfl, HB.out.alloc hsz _⟩
      | false =>
        have HP2 : Hid (∀ j y, j < k + 1 → l[j]? = some y → Fo.called s y = false) := fun j y hj hy => by
          by_cases e : j = k
          · subst e
            rw [HXK.out] at hy
            cases hy
            exact hp
          · exact HP.out j y (by omega) hy
        have ht : (x.1.toList == s.toList) = false := hp
        clear hp
        go_wp2
        go_roundw
        case rel => exact ⟨k + 1, by omega, by go_num, HP2, HB.out.alloc hsz _⟩
        case measure => simp [intOf]; omega
    · obtain rfl : k = n := by omega
      have HA : Hid (Fo.at' (Fo.called s) l = -1) := Fo.at_miss fun j y hj => HP.out j y (by rw [← HN.out]; exact hj)
      go_wp2
      go_ret
      rw [HA.out]
      exact ⟨rfl, HB.out⟩
end Go.Proofs.YtacghcoikekfeaaGreat
/- FRefB -/
namespace Go.Proofs.YtacghcoikekfeaaGreat
open Go.ChangeShapes Go.WideShapes Go.ChangeAt Go.RowKit Go.Deep
set_option maxRecDepth 100000
namespace Fo
/-- Of the first k names each stands there first. -/
def firsts (l : List Ent) (k : Nat) : Prop := ∀ (i : Nat) x, i < k → l[i]? = some x → at' (called x.1) l = i
theorem called_iff {s : ByteArray} {x : Ent} : called s x = true ↔ x.1 = s := by
  unfold called
  rw [beq_iff_eq, ByteArray.toList_eq, ByteArray.toList_eq]
  constructor
  · intro h
    obtain ⟨⟨⟨a⟩⟩, c⟩ := x
    obtain ⟨⟨b⟩⟩ := s
    simp only at h
    simp [h]
  · rintro rfl
    rfl
theorem first_of_apart {l : List Ent} (h : apart l) {i : Nat} {x : Ent} (hx : l[i]? = some x) : at' (called x.1) l = i := by
  refine at_hit hx (called_iff.2 rfl) fun j y hj hy => ?_
  cases hc : called x.1 y
  · rfl
  · exfalso
    have e := called_iff.1 hc
    have hil := (List.getElem?_eq_some_iff.1 hx)
    have hjl := (List.getElem?_eq_some_iff.1 hy)
    have := (List.pairwise_iff_getElem.1 h) j i (by simpa using hjl.1) (by simpa using hil.1) hj
    apply this
    simp only [List.getElem_map, hil.2, hjl.2]
    exact e
theorem apart_of_firsts {l : List Ent} (h : firsts l l.length) : apart l := by
  refine List.pairwise_iff_getElem.2 fun i j hi hj hij e => ?_
  have hj' : j < l.length := by simpa using hj
  have hx : l[i]? = some (l[i]'(by omega)) := List.getElem?_eq_getElem _
  have hy : l[j]? = some (l[j]'hj') := List.getElem?_eq_getElem _
  have h1 := h i _ (by omega) hx
  have h2 := h j _ hj' hy
  simp only [List.getElem_map] at e
  rw [e, h2] at h1
  omega
theorem firsts_zero (l : List Ent) : firsts l 0 := fun i x h => by omega
theorem firsts_succ {l : List Ent} {k : Nat} {x : Ent} (h : firsts l k) (hx : l[k]? = some x) (hp : at' (called x.1) l = k) : firsts l (k + 1) := fun i y hi hy => by
  by_cases e : i = k
  · subst e
    rw [hx] at hy
    cases hy
    exact hp
  · exact h i y (by omega) hy
theorem prev_of {l : List Ent} {k : Nat} {y : Ent} (hy : l[k]? = some y) : lastC l (k + 1) = y.2.1 := lastC_succ hy
end Fo
theorem below_drewN {B : Nat} {w w' : World} (h : Below B w w') (q : Nat) : Below B w (w'.drewN q) := ⟨h.os, h.tape, h.output, h.size, h.block⟩
set_option maxHeartbeats 4000000 in
theorem frright_any (v : Value) (l : List Ent) (next : Int) (w : World) (hv : AtW EE w v l) (hs : ∀ x ∈ l, x.1.size ≤ maxLen) :
    Calls Tryz.prog 36 #[v, .int .i64 next] w fun e w' => e = .returned (.bool (decide (Fo.err l next = 0))) ∧ Below w.heap.size w w' := by
  have HV : Hid (AtW EE w v l) := hv
  obtain ⟨ao, cap, rfl, hm, hx⟩ := hv.open
  clear hv
  unfold maxLen at hm
  obtain ⟨n, hn⟩ : ∃ n, l.length = n := ⟨_, rfl⟩
  rw [hn] at hm HV ⊢
  have HN : Hid (l.length = n) := hn
  have HX : Hid (∀ i x, l[i]? = some x → ∃ b off, ao = some ⟨b, off, none⟩ ∧ True ∧ b < w.heap.size ∧ ∀ k u, (EE.cells x)[k]? = some u → w.cell? ⟨b, off + (i * EE.sz + k), none⟩ = some u) := hx
  have HS : Hid (∀ x ∈ l, x.1.size ≤ maxLen) := hs
  clear hn hx hs
  by_cases n0 : next < 0
  · have H : Hid (Fo.err l next = 4) := Fo.err_no fun h => by have := h.1.1; omega
    rw [H.out]
    go_enter Tryz.func36, Tryz.ntmps36
    go_wp2
    go_ret
    exact ⟨rfl, Below.refl _ _⟩
  by_cases n1 : 1099511627776 < next
  · have H : Hid (Fo.err l next = 4) := Fo.err_no fun h => by have := h.1.2; omega
    rw [H.out]
    go_enter Tryz.func36, Tryz.ntmps36
    go_wp2
    go_ret
    exact ⟨rfl, Below.refl _ _⟩
  have H1 : Hid (0 ≤ next ∧ next ≤ 1099511627776) := ⟨by omega, by omega⟩
  go_enter Tryz.func36, Tryz.ntmps36
  go_wp2
  go_loopw [15] (fun i wr => ∃ k : Nat, k ≤ n ∧ i = .int .i64 k ∧ Hid (Fo.Pre next l k ∧ Fo.firsts l k) ∧ Hid (Below w.heap.size w wr)) (fun i _ => n - (intOf i).toNat)
  case atStart => exact ⟨0, Nat.zero_le _, rfl, ⟨Fo.pre_zero _ _, Fo.firsts_zero _⟩, Below.refl _ _⟩
  case round =>
    obtain ⟨k, hk, rfl, HP, HB⟩ := hrel
    by_cases hlt : k < n
    · obtain ⟨x, hxk⟩ : ∃ x, l[k]? = some x := ⟨_, List.getElem?_eq_getElem (by rw [HN.out]; exact hlt)⟩
      have HXK : Hid (l[k]? = some x) := hxk
      obtain ⟨b2, off, rfl, -, hB, hcx⟩ := HX.out k x hxk
      have a := fun j u hj => (HB.out.cell (p := ⟨b2, off + (k * EE.sz + j), none⟩) hB).trans (hcx j u hj)
      have c0 : wr.cell? ⟨b2, off + k * 4, none⟩ = some (.string x.1) := a 0 _ rfl
      have c1 : wr.cell? ⟨b2, off + k * 4 + 1, none⟩ = some (.int .i64 x.2.1) := a 1 _ rfl
      have c2 : wr.cell? ⟨b2, off + k * 4 + 2, none⟩ = some (.int .i64 x.2.2.1) := a 2 _ rfl
      have c3 : wr.cell? ⟨b2, off + k * 4 + 3, none⟩ = some (.int .i64 x.2.2.2) := a 3 _ rfl
      have HBX : Hid (b2 < w.heap.size) := hB
      have hsz := HB.out.size
      have HSZ : Hid (x.1.size ≤ maxLen) := HS.out x (List.mem_of_getElem? hxk)
      have HV1 : Hid (AtW EE (wr.alloc (BE x)) (.slice (some ⟨b2, off, none⟩) n cap) l) := (HV.out.up HB.out).up ((Below.refl _ _).alloc (Nat.le_refl _) _)
      have HB1 : Hid (Below w.heap.size w (wr.alloc (BE x))) := HB.out.alloc hsz _
      obtain ⟨⟨x0, x1, x2, x3⟩, -⟩ := four_of (heap_alloc_new wr (BE x))
      have hlt' : (k : Int) < (n : Int) := by omega
      clear a hcx hxk n0 n1 hB
      obtain ⟨xs, xc, xo, xg⟩ := x
      simp only at c0 c1 c2 c3 HSZ x0 x1 x2 x3 HV1 HB1
      by_cases g1 : Nm.ok xs
      · have E1 : Hid (Nm.err xs = 0) := Nm.err_ok g1
        by_cases g2 : Fo.at' (Fo.called xs) l = k
        · have E2 : Hid (Fo.at' (Fo.called xs) l = k) := g2
          by_cases g3 : Ho xo xg
          · have E3 : Hid (decide (Ho xo xg) = true) := decide_eq_true g3
            by_cases g4 : xc < 1
            · have H : Hid (Fo.err l next = 4) := Fo.not_good HXK.out fun h => by
                have h1 := (Fo.lastC_bd HP.out.1 (by rw [HN.out]; exact hk) H1.out.1).1
                have h2 := h.2.1.1
                simp only at h2
                omega
              clear g1 g2 g3
              go_wp2_with fail
              refine (rname_any xs _ HSZ.out).mono ?_
              rintro e w1 ⟨rfl, rfl⟩
              rw [E1.out]
              go_wp2_with fail
              refine (rplace_any _ l xs _ HV1.out).mono ?_
              rintro e w2 ⟨rfl, hb2⟩
              rw [E2.out]
              have HB2 : Hid (Below w.heap.size w w2) := HB1.out.trans (hb2.mono HB1.out.size)
              have y1 := cell_step x1 hb2
              have y2 := cell_step x2 hb2
              have y3 := cell_step x3 hb2
              have hs2 := HB2.out.size
              clear hb2
              go_wp2_with fail
              refine (rto_any xo xg _).mono ?_
              rintro e w3 ⟨rfl, rfl⟩
              rw [E3.out]
              have z1 := (cell_older (cell_lt y1) (BHf xo xg) 1).trans y1
              have HB3 : Hid (Below w.heap.size w (w2.alloc (BHf xo xg))) := HB2.out.alloc hs2 _
              go_wp2
              go_ret
              rw [H.out]
              exact ⟨rfl, HB3.out⟩
            · by_cases g5 : next < xc
              · have H : Hid (Fo.err l next = 4) := Fo.not_good HXK.out fun h => by
                  have h2 := h.2.1.2
                  simp only at h2
                  omega
                clear g1 g2 g3
                go_wp2_with fail
                refine (rname_any xs _ HSZ.out).mono ?_
                rintro e w1 ⟨rfl, rfl⟩
                rw [E1.out]
                go_wp2_with fail
                refine (rplace_any _ l xs _ HV1.out).mono ?_
                rintro e w2 ⟨rfl, hb2⟩
                rw [E2.out]
                have HB2 : Hid (Below w.heap.size w w2) := HB1.out.trans (hb2.mono HB1.out.size)
                have y1 := cell_step x1 hb2
                have y2 := cell_step x2 hb2
                have y3 := cell_step x3 hb2
                have hs2 := HB2.out.size
                clear hb2
                go_wp2_with fail
                refine (rto_any xo xg _).mono ?_
                rintro e w3 ⟨rfl, rfl⟩
                rw [E3.out]
                have z1 := (cell_older (cell_lt y1) (BHf xo xg) 1).trans y1
                have HB3 : Hid (Below w.heap.size w (w2.alloc (BHf xo xg))) := HB2.out.alloc hs2 _
                go_wp2
                go_ret
                rw [H.out]
                exact ⟨rfl, HB3.out⟩
              · by_cases g6 : k = 0
                · have HG : Hid (Fo.Pre next l (k + 1) ∧ Fo.firsts l (k + 1)) := ⟨Fo.pre_succ HP.out.1 fun y hy => by
                    rw [HXK.out] at hy
                    cases hy
                    subst g6
                    exact ⟨g1, ⟨by simp only [Fo.lastC]; omega, by simp only; omega⟩, g3⟩, Fo.firsts_succ HP.out.2 HXK.out g2⟩
                  clear g1 g2 g3
                  subst g6
                  simp only [Nat.zero_mul, Nat.add_zero] at c0 c1 c2 c3
                  go_wp2_with fail
                  refine (rname_any xs _ HSZ.out).mono ?_
                  rintro e w1 ⟨rfl, rfl⟩
                  rw [E1.out]
                  go_wp2_with fail
                  refine (rplace_any _ l xs _ HV1.out).mono ?_
                  rintro e w2 ⟨rfl, hb2⟩
                  rw [E2.out]
                  have HB2 : Hid (Below w.heap.size w w2) := HB1.out.trans (hb2.mono HB1.out.size)
                  have y1 := cell_step x1 hb2
                  have y2 := cell_step x2 hb2
                  have y3 := cell_step x3 hb2
                  have hs2 := HB2.out.size
                  clear hb2
                  go_wp2_with fail
                  refine (rto_any xo xg _).mono ?_
                  rintro e w3 ⟨rfl, rfl⟩
                  rw [E3.out]
                  have z1 := (cell_older (cell_lt y1) (BHf xo xg) 1).trans y1
                  have HB3 : Hid (Below w.heap.size w (w2.alloc (BHf xo xg))) := HB2.out.alloc hs2 _
                  go_wp2_with fail
                  go_quiet (fail)
                  go_wp2
                  go_roundw
                  case rel => exact ⟨0 + 1, by omega, by go_num, HG, below_drewN HB3.out _⟩
                  case measure => simp [intOf]; omega
                · obtain ⟨j, rfl⟩ : ∃ j, k = j + 1 := ⟨k - 1, by omega⟩
                  obtain ⟨y, hyj⟩ : ∃ y, l[j]? = some y := ⟨_, List.getElem?_eq_getElem (by rw [HN.out]; omega)⟩
                  have HY : Hid (l[j]? = some y) := hyj
                  have HL : Hid (Fo.lastC l (j + 1) = y.2.1) := Fo.lastC_succ hyj
                  obtain ⟨b3, off3, hbo, -, hB3, hcy⟩ := HX.out j y hyj
                  simp only [Option.some.injEq, Addr.mk.injEq, and_true] at hbo
                  obtain ⟨rfl, rfl⟩ := hbo
                  have HCY : Hid (w.cell? ⟨b2, off + j * 4 + 1, none⟩ = some (.int .i64 y.2.1)) := hcy 1 _ rfl
                  clear hyj hcy g6
                  have hj0 : (0 : Int) < ((j + 1 : Nat) : Int) := by omega
                  have hjs : ((j + 1 : Nat) : Int) - 1 = (j : Int) := by omega
                  obtain ⟨yc, hyc⟩ : ∃ yc, y.2.1 = yc := ⟨_, rfl⟩
                  rw [hyc] at HL HCY
                  clear hyc
                  by_cases g7 : xc ≤ yc
                  · have H : Hid (Fo.err l next = 4) := Fo.not_good HXK.out fun h => by
                      have h2 := h.2.1.1
                      simp only at h2
                      rw [HL.out] at h2
                      omega
                    clear g1 g2 g3
                    go_wp2_with fail
                    refine (rname_any xs _ HSZ.out).mono ?_
                    rintro e w1 ⟨rfl, rfl⟩
                    rw [E1.out]
                    go_wp2_with fail
                    refine (rplace_any _ l xs _ HV1.out).mono ?_
                    rintro e w2 ⟨rfl, hb2⟩
                    rw [E2.out]
                    have HB2 : Hid (Below w.heap.size w w2) := HB1.out.trans (hb2.mono HB1.out.size)
                    have y1 := cell_step x1 hb2
                    have y2 := cell_step x2 hb2
                    have y3 := cell_step x3 hb2
                    have hs2 := HB2.out.size
                    clear hb2
                    have v1 := (cell_older (Nat.lt_of_lt_of_le HBX.out hs2) (BHf xo xg) (off + j * 4 + 1)).trans ((HB2.out.cell (p := ⟨b2, off + j * 4 + 1, none⟩) HBX.out).trans HCY.out)
                    go_wp2_with fail
                    refine (rto_any xo xg _).mono ?_
                    rintro e w3 ⟨rfl, rfl⟩
                    rw [E3.out]
                    have z1 := (cell_older (cell_lt y1) (BHf xo xg) 1).trans y1
                    have HB3 : Hid (Below w.heap.size w (w2.alloc (BHf xo xg))) := HB2.out.alloc hs2 _
                    go_wp2_with fail
                    go_quiet (fail)
                    go_wp2
                    go_ret
                    rw [H.out]
                    exact ⟨rfl, below_drewN HB3.out _⟩
                  · have HG : Hid (Fo.Pre next l (j + 1 + 1) ∧ Fo.firsts l (j + 1 + 1)) := ⟨Fo.pre_succ HP.out.1 fun y hy => by
                      rw [HXK.out] at hy
                      cases hy
                      exact ⟨g1, ⟨by rw [HL.out]; simp only; omega, by simp only; omega⟩, g3⟩, Fo.firsts_succ HP.out.2 HXK.out g2⟩
                    clear g1 g2 g3
                    go_wp2_with fail
                    refine (rname_any xs _ HSZ.out).mono ?_
                    rintro e w1 ⟨rfl, rfl⟩
                    rw [E1.out]
                    go_wp2_with fail
                    refine (rplace_any _ l xs _ HV1.out).mono ?_
                    rintro e w2 ⟨rfl, hb2⟩
                    rw [E2.out]
                    have HB2 : Hid (Below w.heap.size w w2) := HB1.out.trans (hb2.mono HB1.out.size)
                    have y1 := cell_step x1 hb2
                    have y2 := cell_step x2 hb2
                    have y3 := cell_step x3 hb2
                    have hs2 := HB2.out.size
                    clear hb2
                    have v1 := (cell_older (Nat.lt_of_lt_of_le HBX.out hs2) (BHf xo xg) (off + j * 4 + 1)).trans ((HB2.out.cell (p := ⟨b2, off + j * 4 + 1, none⟩) HBX.out).trans HCY.out)
                    go_wp2_with fail
                    refine (rto_any xo xg _).mono ?_
                    rintro e w3 ⟨rfl, rfl⟩
                    rw [E3.out]
                    have z1 := (cell_older (cell_lt y1) (BHf xo xg) 1).trans y1
                    have HB3 : Hid (Below w.heap.size w (w2.alloc (BHf xo xg))) := HB2.out.alloc hs2 _
                    go_wp2_with fail
                    go_quiet (fail)
                    go_wp2
                    go_roundw
                    case rel => exact ⟨j + 1 + 1, by omega, by go_num, HG, below_drewN HB3.out _⟩
                    case measure => simp [intOf]; omega
          · have E3 : Hid (decide (Ho xo xg) = false) := decide_eq_false g3
            have H : Hid (Fo.err l next = 4) := Fo.not_good HXK.out fun h => g3 h.2.2
            clear g1 g2 g3
            go_wp2_with fail
            refine (rname_any xs _ HSZ.out).mono ?_
            rintro e w1 ⟨rfl, rfl⟩
            rw [E1.out]
            go_wp2_with fail
            refine (rplace_any _ l xs _ HV1.out).mono ?_
            rintro e w2 ⟨rfl, hb2⟩
            rw [E2.out]
            have HB2 : Hid (Below w.heap.size w w2) := HB1.out.trans (hb2.mono HB1.out.size)
            have y1 := cell_step x1 hb2
            have y2 := cell_step x2 hb2
            have y3 := cell_step x3 hb2
            have hs2 := HB2.out.size
            clear hb2
            go_wp2_with fail
            refine (rto_any xo xg _).mono ?_
            rintro e w3 ⟨rfl, rfl⟩
            rw [E3.out]
            have z1 := (cell_older (cell_lt y1) (BHf xo xg) 1).trans y1
            have HB3 : Hid (Below w.heap.size w (w2.alloc (BHf xo xg))) := HB2.out.alloc hs2 _
            go_wp2
            go_ret
            rw [H.out]
            exact ⟨rfl, HB3.out⟩
        · obtain ⟨p, hp⟩ : ∃ p, Fo.at' (Fo.called xs) l = p := ⟨_, rfl⟩
          have E2 : Hid (Fo.at' (Fo.called xs) l = p) := hp
          have hne : ¬ p = (k : Int) := by rw [← hp]; exact g2
          have H : Hid (Fo.err l next = 4) := Fo.err_no fun h => g2 (Fo.first_of_apart h.2.2 HXK.out)
          clear g1 g2 hp
          go_wp2_with fail
          refine (rname_any xs _ HSZ.out).mono ?_
          rintro e w1 ⟨rfl, rfl⟩
          rw [E1.out]
          go_wp2_with fail
          refine (rplace_any _ l xs _ HV1.out).mono ?_
          rintro e w2 ⟨rfl, hb2⟩
          rw [E2.out]
          have HB2 : Hid (Below w.heap.size w w2) := HB1.out.trans (hb2.mono HB1.out.size)
          have y1 := cell_step x1 hb2
          have y2 := cell_step x2 hb2
          have y3 := cell_step x3 hb2
          have hs2 := HB2.out.size
          clear hb2
          go_wp2
          go_ret
          rw [H.out]
          exact ⟨rfl, HB2.out⟩
      · have E1 : Hid (Nm.err xs = 409) := Nm.err_no g1
        have H : Hid (Fo.err l next = 4) := Fo.not_good HXK.out fun h => g1 h.1
        clear g1
        go_wp2_with fail
        refine (rname_any xs _ HSZ.out).mono ?_
        rintro e w1 ⟨rfl, rfl⟩
        rw [E1.out]
        go_wp2
        go_ret
        rw [H.out]
        exact ⟨rfl, HB1.out⟩
    · obtain rfl : k = n := by omega
      have HA : Hid (Fo.err l next = 0) := Fo.err_ok ⟨H1.out, by rw [HN.out]; exact HP.out.1, Fo.apart_of_firsts (by rw [HN.out]; exact HP.out.2)⟩
      go_wp2
      go_ret
      rw [HA.out]
      exact ⟨rfl, HB.out⟩
end Go.Proofs.YtacghcoikekfeaaGreat
/- FRefC -/
namespace Go.Proofs.YtacghcoikekfeaaGreat
open Go.ChangeShapes Go.WideShapes Go.ChangeAt Go.RowKit Go.Deep
set_option maxRecDepth 100000
theorem asked_any (v : Value) (l : List Ent) (next : Int) (s : ByteArray) (w : World) (hv : AtW EE w v l) (hs : ∀ x ∈ l, x.1.size ≤ maxLen) (hn : s.size ≤ maxLen) :
    Calls Tryz.prog 117 #[v, .int .i64 next, .string s] w fun e w' => e = .returned (.int .i64 (Fo.ask l next s)) ∧ Below w.heap.size w w' := by
  have HV : Hid (AtW EE w v l) := hv
  have HS : Hid (∀ x ∈ l, x.1.size ≤ maxLen) := hs
  have HN : Hid (s.size ≤ maxLen) := hn
  clear hv hs hn
  rcases Fo.err_or l next with ⟨he, hr⟩ | ⟨he, hr⟩
  · have HE : Hid (decide (Fo.err l next = 0) = true) := decide_eq_true he
    have HA : Hid (Fo.ask l next s = Nm.err s) := Fo.ask_right he
    rw [HA.out]
    clear he hr
    go_enter Tryz.func117, Tryz.ntmps117
    go_wp2_with fail
    refine (frright_any v l next _ HV.out HS.out).mono ?_
    rintro e w1 ⟨rfl, hb⟩
    rw [HE.out]
    have HB1 : Hid (Below w.heap.size w w1) := hb
    clear hb
    go_wp2_with fail
    refine (rname_any s _ HN.out).mono ?_
    rintro e w2 ⟨rfl, rfl⟩
    go_wp2
    go_ret
    exact ⟨rfl, HB1.out⟩
  · have HE : Hid (decide (Fo.err l next = 0) = false) := decide_eq_false (by rw [he]; decide)
    have HA : Hid (Fo.ask l next s = 4) := Fo.ask_wrong he
    rw [HA.out]
    clear he hr
    go_enter Tryz.func117, Tryz.ntmps117
    go_wp2_with fail
    refine (frright_any v l next _ HV.out HS.out).mono ?_
    rintro e w1 ⟨rfl, hb⟩
    rw [HE.out]
    go_wp2
    go_ret
    exact ⟨rfl, hb⟩
set_option maxHeartbeats 2000000 in
theorem frfind_any (v : Value) (l : List Ent) (next : Int) (s : ByteArray) (w : World) (hv : AtW EE w v l) (hs : ∀ x ∈ l, x.1.size ≤ maxLen) (hn : s.size ≤ maxLen) :
    Calls Tryz.prog 79 #[v, .int .i64 next, .string s] w fun e w' => e = .returned (.tuple #[VE (Fo.found l next s), .int .i64 (Fo.findErr l next s)]) ∧ Below w.heap.size w w' := by
  have HB0 : Hid (Below w.heap.size w (w.alloc BZE)) := (Below.refl _ w).alloc (Nat.le_refl _) _
  have HA0 : Hid ((w.alloc BZE).heap[w.heap.size]? = some BZE) := heap_alloc_new w BZE
  have HV : Hid (AtW EE (w.alloc BZE) v l) := hv.up HB0.out
  have HS : Hid (∀ x ∈ l, x.1.size ≤ maxLen) := hs
  have HNN : Hid (s.size ≤ maxLen) := hn
  obtain ⟨ao, cap, rfl, hm, hx⟩ := hv.open
  clear hv hs hn
  unfold maxLen at hm
  obtain ⟨m, hm'⟩ : ∃ m, l.length = m := ⟨_, rfl⟩
  rw [hm'] at hm HV ⊢
  have HLM : Hid (l.length = m) := hm'
  clear hm'
  rcases Fo.ask_or l next s with ⟨ha, -, -⟩ | ⟨ha, -⟩ | ⟨ha, -, -⟩
  · have HA : Hid (Fo.ask l next s = 0) := ha
    rcases Fo.at_or (Fo.called s) l with ⟨ht, -⟩ | ⟨k, x, ht, hxk, -, -⟩
    · have HT : Hid (Fo.at' (Fo.called s) l = -1) := ht
      have HE : Hid (Fo.findErr l next s = 402) := (Fo.findErr_miss ha ht).1
      have HF : Hid (Fo.found l next s = ((⟨#[]⟩, 0, 0, 0) : Ent)) := Fo.found_no HE.out (by decide)
      rw [HF.out, HE.out]
      clear ha ht hx
      go_enter Tryz.func79, Tryz.ntmps79
      go_wp2_with fail
      refine (asked_any _ l next s _ HV.out HS.out HNN.out).mono ?_
      rintro e w1 ⟨rfl, hb⟩
      rw [HA.out]
      have HB1 : Hid (Below w.heap.size w w1) := HB0.out.trans (hb.mono HB0.out.size)
      have HA1 : Hid (w1.heap[w.heap.size]? = some BZE) := (hb.block _ (by simp)).trans HA0.out
      have HV1 : Hid (AtW EE w1 (.slice ao m cap) l) := HV.out.up hb
      clear hb
      go_wp2_with fail
      refine (rplace_any _ l s _ HV1.out).mono ?_
      rintro e w2 ⟨rfl, hb⟩
      rw [HT.out]
      have HB2 : Hid (Below w.heap.size w w2) := HB1.out.trans (hb.mono HB1.out.size)
      have HA2 : Hid (w2.heap[w.heap.size]? = some BZE) := (hb.block _ (Array.getElem?_eq_some_iff.1 HA1.out).1).trans HA1.out
      obtain ⟨⟨z0, z1, z2, z3⟩, zf⟩ := four_of (x := ((⟨#[]⟩, 0, 0, 0) : Ent)) HA2.out
      simp only at z0 z1 z2 z3
      clear hb
      go_wp2
      (try simp only [Exit.inBlock, Exit.then])
      refine bodyPost_ret (v := .tuple #[.agg #[.string ⟨#[]⟩, .int .i64 0, .int .i64 0, .int .i64 0], .int .i64 402]) ?_ rfl ⟨rfl, ?_⟩
      · rw [results_cell_tmp rfl]
        go_simp
      · repeat (refine Below.setCell ?_ (by simp) _)
        exact HB2.out
    · have HT : Hid (Fo.at' (Fo.called s) l = k) := ht
      have HE : Hid (Fo.findErr l next s = 0) := (Fo.findErr_hit ha ht).1
      have HF : Hid (Fo.found l next s = x) := Fo.found_hit HE.out (Fo.findErr_hit ha ht).2 hxk
      have hk := (List.getElem?_eq_some_iff.1 hxk).1
      rw [HLM.out] at hk
      have hkI : (k : Int) < (m : Int) := by omega
      obtain ⟨bb, off, rfl, -, hB, hc⟩ := hx k x hxk
      have HC : Hid (∀ j u, (EE.cells x)[j]? = some u → w.cell? ⟨bb, off + (k * EE.sz + j), none⟩ = some u) := hc
      rw [HF.out, HE.out]
      clear ha ht hx hxk hc
      go_enter Tryz.func79, Tryz.ntmps79
      go_wp2_with fail
      refine (asked_any _ l next s _ HV.out HS.out HNN.out).mono ?_
      rintro e w1 ⟨rfl, hb⟩
      rw [HA.out]
      have HB1 : Hid (Below w.heap.size w w1) := HB0.out.trans (hb.mono HB0.out.size)
      have HA1 : Hid (w1.heap[w.heap.size]? = some BZE) := (hb.block _ (by simp)).trans HA0.out
      have HV1 : Hid (AtW EE w1 (.slice (some ⟨bb, off, none⟩) m cap) l) := HV.out.up hb
      clear hb
      go_wp2_with fail
      refine (rplace_any _ l s _ HV1.out).mono ?_
      rintro e w2 ⟨rfl, hb⟩
      rw [HT.out]
      have HB2 : Hid (Below w.heap.size w w2) := HB1.out.trans (hb.mono HB1.out.size)
      have HA2 : Hid (w2.heap[w.heap.size]? = some BZE) := (hb.block _ (Array.getElem?_eq_some_iff.1 HA1.out).1).trans HA1.out
      obtain ⟨⟨z0, z1, z2, z3⟩, zf⟩ := four_of (x := ((⟨#[]⟩, 0, 0, 0) : Ent)) HA2.out
      simp only at z0 z1 z2 z3
      have aa := fun j u hj => (HB2.out.cell (p := ⟨bb, off + (k * EE.sz + j), none⟩) hB).trans (HC.out j u hj)
      have c0 : w2.cell? ⟨bb, off + k * 4, none⟩ = some (.string x.1) := aa 0 _ rfl
      have c1 : w2.cell? ⟨bb, off + k * 4 + 1, none⟩ = some (.int .i64 x.2.1) := aa 1 _ rfl
      have c2 : w2.cell? ⟨bb, off + k * 4 + 2, none⟩ = some (.int .i64 x.2.2.1) := aa 2 _ rfl
      have c3 : w2.cell? ⟨bb, off + k * 4 + 3, none⟩ = some (.int .i64 x.2.2.2) := aa 3 _ rfl
      clear hb aa
      go_wp2
      (try simp only [Exit.inBlock, Exit.then])
      refine bodyPost_ret (v := .tuple #[VE x, .int .i64 0]) ?_ rfl ⟨rfl, ?_⟩
      · rw [results_cell_tmp rfl]
        go_simp
      · repeat (refine Below.setCell ?_ (by simp) _)
        exact HB2.out
  · have HA : Hid (Fo.ask l next s = 4) := ha
    have HE : Hid (Fo.findErr l next s = 4) := (Fo.findErr_ask ha (by decide)).1
    have HF : Hid (Fo.found l next s = ((⟨#[]⟩, 0, 0, 0) : Ent)) := Fo.found_no HE.out (by decide)
    rw [HF.out, HE.out]
    clear ha hx
    go_enter Tryz.func79, Tryz.ntmps79
    go_wp2_with fail
    refine (asked_any _ l next s _ HV.out HS.out HNN.out).mono ?_
    rintro e w1 ⟨rfl, hb⟩
    rw [HA.out]
    have HB1 : Hid (Below w.heap.size w w1) := HB0.out.trans (hb.mono HB0.out.size)
    have HA1 : Hid (w1.heap[w.heap.size]? = some BZE) := (hb.block _ (by simp)).trans HA0.out
    obtain ⟨⟨z0, z1, z2, z3⟩, zf⟩ := four_of (x := ((⟨#[]⟩, 0, 0, 0) : Ent)) HA1.out
    simp only at z0 z1 z2 z3
    clear hb
    go_wp2
    (try simp only [Exit.inBlock, Exit.then])
    refine bodyPost_ret (v := .tuple #[.agg #[.string ⟨#[]⟩, .int .i64 0, .int .i64 0, .int .i64 0], .int .i64 4]) ?_ rfl ⟨rfl, ?_⟩
    · rw [results_cell_tmp rfl]
      go_simp
    · repeat (refine Below.setCell ?_ (by simp) _)
      exact HB1.out
  · have HA : Hid (Fo.ask l next s = 409) := ha
    have HE : Hid (Fo.findErr l next s = 409) := (Fo.findErr_ask ha (by decide)).1
    have HF : Hid (Fo.found l next s = ((⟨#[]⟩, 0, 0, 0) : Ent)) := Fo.found_no HE.out (by decide)
    rw [HF.out, HE.out]
    clear ha hx
    go_enter Tryz.func79, Tryz.ntmps79
    go_wp2_with fail
    refine (asked_any _ l next s _ HV.out HS.out HNN.out).mono ?_
    rintro e w1 ⟨rfl, hb⟩
    rw [HA.out]
    have HB1 : Hid (Below w.heap.size w w1) := HB0.out.trans (hb.mono HB0.out.size)
    have HA1 : Hid (w1.heap[w.heap.size]? = some BZE) := (hb.block _ (by simp)).trans HA0.out
    obtain ⟨⟨z0, z1, z2, z3⟩, zf⟩ := four_of (x := ((⟨#[]⟩, 0, 0, 0) : Ent)) HA1.out
    simp only at z0 z1 z2 z3
    clear hb
    go_wp2
    (try simp only [Exit.inBlock, Exit.then])
    refine bodyPost_ret (v := .tuple #[.agg #[.string ⟨#[]⟩, .int .i64 0, .int .i64 0, .int .i64 0], .int .i64 409]) ?_ rfl ⟨rfl, ?_⟩
    · rw [results_cell_tmp rfl]
      go_simp
    · repeat (refine Below.setCell ?_ (by simp) _)
      exact HB1.out
end Go.Proofs.YtacghcoikekfeaaGreat
/- SRef2 -/
namespace Go.Proofs.YtacghcoikekfeaaGreat
open Go.ChangeShapes Go.WideShapes Go.ChangeAt Go.RowKit Go.Deep It
set_option maxRecDepth 100000
theorem setE {w : World} {A : Nat} {x : Ent} (h : w.heap[A]? = some BZE) : ((((w.setCell ⟨A, 0, none⟩ (.string x.1)).setCell ⟨A, 1, none⟩ (.int .i64 x.2.1)).setCell ⟨A, 2, none⟩ (.int .i64 x.2.2.1)).setCell ⟨A, 3, none⟩ (.int .i64 x.2.2.2)).heap[A]? = some (BE x) := by
  simp [World.setCell, Array.getElem?_modify, h]
set_option maxHeartbeats 2000000 in
theorem rlook_any {S : Nat → Prop} (v : Value) (L : List Rw) (a b : Int) (s : ByteArray) (w : World) (hv : TabAt S w v L) (hok : Sp.okN L) (hs : s.size ≤ maxLen) (hr : It.right (pl L) = true) :
    Calls Tryz.prog 44 #[v, .agg #[.int .i64 a, .int .i64 b], .string s] w fun e w' => e = .returned (.tuple #[.agg #[.int .i64 (Sp.lookH (pl L) a b s).1, .int .i64 (Sp.lookH (pl L) a b s).2], .int .i64 (Sp.lookErr (pl L) a b s)]) ∧ Below w.heap.size w w' := by
  obtain ⟨W, hW⟩ : ∃ W, W = (w.alloc (BH a b)).alloc (BH 0 0) := ⟨_, rfl⟩
  have HB0 : Hid (Below w.heap.size w W) := by show Below w.heap.size w W; rw [hW]; exact ((Below.refl _ w).alloc (Nat.le_refl _) _).alloc (by simp) _
  have HA0 : Hid (W.heap[w.heap.size]? = some (BH a b) ∧ W.heap[w.heap.size + 1]? = some (BH 0 0)) := by
    rw [hW]
    refine ⟨(Below.heap_alloc _ _ _ (by simp)).trans (heap_alloc_new _ _), ?_⟩
    have := heap_alloc_new (w.alloc (BH a b)) (BH 0 0)
    rwa [show (w.alloc (BH a b)).heap.size = w.heap.size + 1 by simp] at this
  have hws : w.heap.size + 1 < W.heap.size := by rw [hW]; simp
  have HV : Hid (TabAt S W v L) := hv.up HB0.out
  obtain ⟨⟨a0, a1⟩, _⟩ := two_of HA0.out.1
  obtain ⟨ao, cap, rfl, hm, hx⟩ := hv.open
  have HSM : Hid (s.size ≤ maxLen) := hs
  clear hv hs
  obtain ⟨nm, hnm⟩ : ∃ nm, names (pl L) a b = nm := ⟨_, rfl⟩
  have HNM : Hid (names (pl L) a b = nm) := hnm
  cases nm
  · have hf : findErr (pl L) a b = 401 := by unfold findErr; rw [if_pos hr, hnm]; rfl
    have hd : Sp.dirErr (pl L) a b = 401 := by unfold Sp.dirErr; rw [hf]; rfl
    rw [show Sp.lookErr (pl L) a b s = 401 by unfold Sp.lookErr; rw [hd]; rfl, show Sp.lookH (pl L) a b s = (0, 0) by unfold Sp.lookH; rw [hd]; rfl]
    clear hf hd hnm hr hok hx
    go_enter Tryz.func44, Tryz.ntmps44
    go_wp2_with fail
    rw [← hW]
    refine (rnames_any _ L a b _ HV.out).mono ?_
    rintro e w1 ⟨rfl, hb1⟩
    rw [HNM.out]
    have HB1 : Hid (Below w.heap.size w w1) := HB0.out.trans (hb1.mono HB0.out.size)
    have HA1 : Hid (w1.heap[w.heap.size]? = some (BH a b) ∧ w1.heap[w.heap.size + 1]? = some (BH 0 0)) := ⟨(hb1.block _ (by omega)).trans HA0.out.1, (hb1.block _ hws).trans HA0.out.2⟩
    have hws1 : w.heap.size + 1 < w1.heap.size := (Array.getElem?_eq_some_iff.1 HA1.out.2).1
    have hws0 : w.heap.size < w1.heap.size := by omega
    clear hb1 hW a0 a1 HV HA0
    obtain ⟨⟨a0, a1⟩, af⟩ := two_of HA1.out.1
    obtain ⟨⟨z0, z1⟩, zf⟩ := two_of HA1.out.2
    go_wp2
    (try simp only [Exit.inBlock, Exit.then])
    refine bodyPost_ret (v := .tuple #[.agg #[.int .i64 0, .int .i64 0], .int .i64 401]) ?_ rfl ⟨rfl, ?_⟩
    · rw [results_cell_tmp rfl]
      go_simp
    · have hs1 := HB1.out.size
      repeat (first | exact HB1.out | refine Below.setCell ?_ (by simp) _ | refine Below.alloc ?_ (by simp; omega) _)
  · have hf : findErr (pl L) a b = 0 := by unfold findErr; rw [if_pos hr, hnm]; rfl
    obtain ⟨k, x0, rfl, hx0, hg0, hk0, hi0, -⟩ := Sp.find_get hf
    obtain ⟨x, hxk, rfl⟩ := Sp.pl_some hx0
    obtain ⟨⟨bb, off, rfl, hB, hc8⟩, hgd⟩ := hx k x hxk
    have HX8 : Hid (∀ V, Below w.heap.size w V → eight V bb (off + k * 8) x) := fun V h => hc8.below h hB
    have HVX : Hid (∀ V, Below w.heap.size w V → AtW EE V (.slice x.ep x.en x.ec) x.i.ents) := fun V h => (hgd.2.1.up h).wide
    have HOK : Hid (∀ e ∈ x.i.ents, e.1.size ≤ maxLen) := hok x (List.mem_of_getElem? hxk)
    have hkl : (k : Int) < (L.length : Int) := by have := (List.getElem?_eq_some_iff.1 hxk).1; omega
    by_cases hk2 : x.i.kind = 2
    · have hd := Sp.dirErr_hit hf (by rw [hi0]; exact hk2)
      rw [hi0] at hd
      have hkd : (x.i.kind != 2) = false := by simp [hk2]
      obtain ⟨xx, hxx⟩ : ∃ xx, Fo.found x.i.ents x.i.next s = xx := ⟨_, rfl⟩
      obtain ⟨fe, hfe⟩ : ∃ fe, Fo.findErr x.i.ents x.i.next s = fe := ⟨_, rfl⟩
      have HF : Hid (Fo.found x.i.ents x.i.next s = xx ∧ Fo.findErr x.i.ents x.i.next s = fe) := ⟨hxx, hfe⟩
      rw [show Sp.lookErr (pl L) k b s = fe by unfold Sp.lookErr; rw [if_pos hd.1, hd.2.1, hd.2.2, hfe], show Sp.lookH (pl L) k b s = xx.2.2 by unfold Sp.lookH; rw [if_pos hd.1, hd.2.1, hd.2.2, hxx]]
      clear hf hd hnm hr hok hx hx0 hg0 hk0 hi0 hxk hc8 hgd hxx hfe hk2
      go_enter Tryz.func44, Tryz.ntmps44
      go_wp2_with fail
      rw [← hW]
      refine (rnames_any _ L k b _ HV.out).mono ?_
      rintro e w1 ⟨rfl, hb1⟩
      rw [HNM.out]
      have HB1 : Hid (Below w.heap.size w w1) := HB0.out.trans (hb1.mono HB0.out.size)
      have HA1 : Hid (w1.heap[w.heap.size]? = some (BH k b) ∧ w1.heap[w.heap.size + 1]? = some (BH 0 0)) := ⟨(hb1.block _ (by omega)).trans HA0.out.1, (hb1.block _ hws).trans HA0.out.2⟩
      have hws1 : w.heap.size + 1 < w1.heap.size := (Array.getElem?_eq_some_iff.1 HA1.out.2).1
      have hws0 : w.heap.size < w1.heap.size := by omega
      clear hb1 hW a0 a1 HV HA0
      obtain ⟨⟨a0, a1⟩, af⟩ := two_of HA1.out.1
      have hbw1 : bb < w1.heap.size := Nat.lt_of_lt_of_le hB HB1.out.size
      have HSG : Hid (∀ V : World, Below w1.heap.size w1 V → V.cell? ⟨w.heap.size, 0, none⟩ = some (.int .i64 k) ∧ V.cell? ⟨bb, off + k * 8 + 6, none⟩ = some (.slice x.ep x.en x.ec) ∧ V.cell? ⟨bb, off + k * 8 + 7, none⟩ = some (.int .i64 x.i.next)) := fun V h => by
        obtain ⟨⟨a0, a1⟩, _⟩ := two_of HA1.out.1
        obtain ⟨r0, r1, r2, r3, r4, r5, r6, r7⟩ := HX8.out _ (HB1.out.trans (h.mono HB1.out.size))
        exact ⟨cell_step a0 h, r6, r7⟩
      have HCF : Hid (∀ V : World, Below w1.heap.size w1 V → Calls Tryz.prog 79 #[.slice x.ep x.en x.ec, .int .i64 x.i.next, .string s] V fun e w' => e = .returned (.tuple #[VE xx, .int .i64 fe]) ∧ Below V.heap.size V w') := fun V h => by
        rw [← HF.out.1, ← HF.out.2]
        exact frfind_any _ x.i.ents x.i.next s V (HVX.out _ (HB1.out.trans (h.mono HB1.out.size))) HOK.out HSM.out
      obtain ⟨r0, r1, r2, r3, r4, r5, r6, r7⟩ := HX8.out _ HB1.out
      go_wp2_with fail
      clear r0 r1 r2 r3 r4 r5 r6 r7 a0 a1 af
      go_region_held3 (fun V => V.cell? ⟨w.heap.size, 0, none⟩ = some (.int .i64 k) ∧ V.cell? ⟨bb, off + k * 8 + 6, none⟩ = some (.slice x.ep x.en x.ec) ∧ V.cell? ⟨bb, off + k * 8 + 7, none⟩ = some (.int .i64 x.i.next)) (first | exact HSG.out _ (by (repeat (first | with_reducible assumption | exact Below.refl _ _ | refine bel_drew ?_ | refine Below.setCell ?_ (by first | exact Nat.le_refl _ | assumption) _ | refine Below.alloc ?_ (by first | exact Nat.le_refl _ | assumption) _)))) (first
        | (go_at_call 79; refine (HCF.out _ (by (repeat (first | with_reducible assumption | exact Below.refl _ _ | refine bel_drew ?_ | refine Below.setCell ?_ (by first | exact Nat.le_refl _ | assumption) _ | refine Below.alloc ?_ (by first | exact Nat.le_refl _ | assumption) _)))).mono ?_; rintro e w3 ⟨rfl, hb3⟩; (first | (have hz3 : w3.heap[w1.heap.size]? = some BZE := (hb3.block _ (by simp)).trans (heap_alloc_new w1.drew BZE); have hb33 : Below w1.heap.size w1 w3 := ((bel_drew (Below.refl _ _)).alloc (Nat.le_refl _) BZE).trans (hb3.mono (by simp)); have hl3 := (Array.getElem?_eq_some_iff.1 hz3).1; obtain ⟨⟨f0, f1, f2, f3⟩, ff⟩ := four_of (x := (⟨#[]⟩, 0, 0, 0)) hz3) | (have hz3 : w3.heap[w1.heap.size]? = some BZE := (hb3.block _ (by simp)).trans (heap_alloc_new w1 BZE); have hb33 : Below w1.heap.size w1 w3 := ((Below.refl _ _).alloc (Nat.le_refl _) BZE).trans ((undrew hb3).mono (by simp)); have hl3 := (Array.getElem?_eq_some_iff.1 hz3).1; obtain ⟨⟨f0, f1, f2, f3⟩, ff⟩ := four_of (x := (⟨#[]⟩, 0, 0, 0)) hz3) | (have hb33 : Below w1.heap.size w1 w3 := undrew hb3)); have hs3 : w1.heap.size ≤ w3.heap.size := hb33.size; have h31 : w.heap.size + 1 < w3.heap.size := Nat.lt_of_lt_of_le hws1 hs3; have hz1 : w3.heap[w.heap.size + 1]? = some (BH 0 0) := (hb33.block _ hws1).trans HA1.out.2; obtain ⟨⟨z0, z1⟩, zf⟩ := two_of hz1; have hne3 : w1.heap.size ≠ w.heap.size + 1 := by omega))
      all_goals first
          | (obtain ⟨W5, hW5⟩ : ∃ W5, W5 = w3.alloc (BE xx) := ⟨_, rfl⟩
             rw [← hW5]
             obtain ⟨b9, hb9⟩ : ∃ b9, b9 = w3.heap.size := ⟨_, rfl⟩
             have HX5 : Hid (W5.heap[b9]? = some (BE xx)) := by rw [hW5, hb9]; exact heap_alloc_new _ _
             have HBW : Hid (Below w1.heap.size w1 W5) := by rw [hW5]; exact hb33.alloc hs3 _
             rw [← hb9]
             clear hb9 hW5 z0 z1 zf)
          | (obtain ⟨W5, hW5⟩ : ∃ W5, W5 = (((w3.setCell ⟨w1.heap.size, 0, none⟩ (.string xx.1)).setCell ⟨w1.heap.size, 1, none⟩ (.int .i64 xx.2.1)).setCell ⟨w1.heap.size, 2, none⟩ (.int .i64 xx.2.2.1)).setCell ⟨w1.heap.size, 3, none⟩ (.int .i64 xx.2.2.2) := ⟨_, rfl⟩
             rw [← hW5]
             obtain ⟨b9, hb9⟩ : ∃ b9, b9 = w1.heap.size := ⟨_, rfl⟩
             have HX5 : Hid (W5.heap[b9]? = some (BE xx)) := by rw [hW5, hb9]; exact setE hz3
             have HBW : Hid (Below w1.heap.size w1 W5) := by
               rw [hW5]
               exact Below.setCell (p := ⟨w1.heap.size, 3, none⟩) (Below.setCell (p := ⟨w1.heap.size, 2, none⟩) (Below.setCell (p := ⟨w1.heap.size, 1, none⟩) (Below.setCell (p := ⟨w1.heap.size, 0, none⟩) hb33 (Nat.le_refl _) _) (Nat.le_refl _) _) (Nat.le_refl _) _) (Nat.le_refl _) _
             rw [← hb9]
             clear hb9 hW5 z0 z1 zf f0 f1 f2 f3 ff)
      all_goals
        have HB5 : Hid (Below w.heap.size w W5) := HB1.out.trans (HBW.out.mono HB1.out.size)
        have HZ5 : Hid (W5.heap[w.heap.size + 1]? = some (BH 0 0)) := (HBW.out.block _ hws1).trans HA1.out.2
        have hl5 := (Array.getElem?_eq_some_iff.1 HZ5.out).1
        obtain ⟨⟨y0, y1, y2, y3⟩, yf⟩ := four_of HX5.out
        obtain ⟨⟨z0, z1⟩, zf⟩ := two_of HZ5.out
        clear hb3 hb33 hz1 HSG HCF
        (try simp only [Exit.then])
        go_wp2
        (try simp only [Exit.then])
        refine bodyPost_ret (v := .tuple #[.agg #[.int .i64 xx.2.2.1, .int .i64 xx.2.2.2], .int .i64 fe]) ?_ rfl ⟨rfl, ?_⟩
        · rw [results_cell_tmp rfl]
          go_simp
        · repeat (first | exact HB5.out | refine bel_drew ?_ | refine Below.setCell ?_ (by simp) _)
    · have hd := (Sp.dirErr_file hf (by rw [hi0]; exact hk2)).1
      have hkd : (x.i.kind != 2) = true := by simpa using hk2
      rw [show Sp.lookErr (pl L) k b s = 404 by unfold Sp.lookErr; rw [hd]; rfl, show Sp.lookH (pl L) k b s = (0, 0) by unfold Sp.lookH; rw [hd]; rfl]
      clear hf hd hnm hr hok hx hx0 hg0 hk0 hi0 hxk hc8 hgd hk2
      go_enter Tryz.func44, Tryz.ntmps44
      go_wp2_with fail
      rw [← hW]
      refine (rnames_any _ L k b _ HV.out).mono ?_
      rintro e w1 ⟨rfl, hb1⟩
      rw [HNM.out]
      have HB1 : Hid (Below w.heap.size w w1) := HB0.out.trans (hb1.mono HB0.out.size)
      have HA1 : Hid (w1.heap[w.heap.size]? = some (BH k b) ∧ w1.heap[w.heap.size + 1]? = some (BH 0 0)) := ⟨(hb1.block _ (by omega)).trans HA0.out.1, (hb1.block _ hws).trans HA0.out.2⟩
      have hws1 : w.heap.size + 1 < w1.heap.size := (Array.getElem?_eq_some_iff.1 HA1.out.2).1
      have hws0 : w.heap.size < w1.heap.size := by omega
      clear hb1 hW a0 a1 HV HA0
      obtain ⟨⟨a0, a1⟩, af⟩ := two_of HA1.out.1
      have hbw1 : bb < w1.heap.size := Nat.lt_of_lt_of_le hB HB1.out.size
      obtain ⟨r0, r1, r2, r3, r4, r5, r6, r7⟩ := HX8.out _ HB1.out
      obtain ⟨⟨z0, z1⟩, zf⟩ := two_of HA1.out.2
      go_wp2
      (try simp only [Exit.inBlock, Exit.then])
      refine bodyPost_ret (v := .tuple #[.agg #[.int .i64 0, .int .i64 0], .int .i64 404]) ?_ rfl ⟨rfl, ?_⟩
      · rw [results_cell_tmp rfl]
        go_simp
      · have hs1 := HB1.out.size
        repeat (first | exact HB1.out | refine Below.setCell ?_ (by simp) _ | refine Below.alloc ?_ (by simp; omega) _)
end Go.Proofs.YtacghcoikekfeaaGreat
