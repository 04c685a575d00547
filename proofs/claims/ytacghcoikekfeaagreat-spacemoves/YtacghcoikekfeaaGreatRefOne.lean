/-
  The document's answer for inodes and tables: one, Right, Names.
-/
import Derived.Test.YtacghcoikekfeaaGreatRefBase
import Derived.Test.YtacghcoikekfeaaGreatUsed
import Derived.Test.YtacghcoikekfeaaGreatPlainS
namespace Go.Proofs.YtacghcoikekfeaaGreat
open Go.ChangeShapes Go.WideShapes Go.ChangeAt Go.RowKit Go.Deep It
set_option maxRecDepth 100000

theorem Bl.mem_end {l : List Bl.R} : ∀ {a : Int}, Bl.right a l → ∀ r ∈ l, r.1 + r.2.size ≤ Bl.lastEnd a l := by
  induction l with
  | nil => intro a _ r hr; cases hr
  | cons s l ih =>
    intro a h r hr
    rcases List.mem_cons.1 hr with rfl | hr
    · exact Bl.right_lastEnd h.2
    · exact ih h.2 r hr
theorem Bl.end_le {l : List Bl.R} (h : Bl.right (-1) l) {s : Int} (hs : 0 ≤ s) : Bl.endOf l ≤ s ↔ ∀ r ∈ l, r.1 + r.2.size ≤ s := by
  unfold Bl.endOf
  rw [if_pos h]
  rcases Bl.snoc_cases l with rfl | ⟨m, r, rfl⟩
  · exact ⟨fun _ r hr => (by cases hr), fun _ => hs⟩
  · have he : Bl.lastEnd 0 (m ++ [r]) = r.1 + r.2.size := by rw [Bl.lastEnd_append]; rfl
    have he' : Bl.lastEnd (-1) (m ++ [r]) = r.1 + r.2.size := by rw [Bl.lastEnd_append]; rfl
    rw [he]
    constructor
    · intro h1 q hq
      have := Bl.mem_end h q hq
      rw [he'] at this
      omega
    · intro h1
      exact h1 r (by simp)
set_option maxHeartbeats 1000000 in
theorem rone_lo (g k l s t nx : Int) (rp ep : Option Addr) (rn rc en ec : Nat) (w : World) (hg : g < 1) :
    Calls Tryz.prog 69 #[.agg #[.int .i64 g, .int .i64 k, .int .i64 l, .int .i64 s, .int .i64 t, .slice rp rn rc, .slice ep en ec, .int .i64 nx]] w fun e w' => e = .returned (.bool false) ∧ Below w.heap.size w w' := by
  go_enter Tryz.func69, Tryz.ntmps69
  go_wp2
  go_ret
  exact ⟨rfl, (Below.refl _ w).alloc (Nat.le_refl _) _⟩
set_option maxHeartbeats 1000000 in
theorem rone_hi (g k l s t nx : Int) (rp ep : Option Addr) (rn rc en ec : Nat) (w : World) (hg0 : ¬ g < 1) (hg : 1099511627776 < g) :
    Calls Tryz.prog 69 #[.agg #[.int .i64 g, .int .i64 k, .int .i64 l, .int .i64 s, .int .i64 t, .slice rp rn rc, .slice ep en ec, .int .i64 nx]] w fun e w' => e = .returned (.bool false) ∧ Below w.heap.size w w' := by
  go_enter Tryz.func69, Tryz.ntmps69
  go_wp2
  go_ret
  exact ⟨rfl, (Below.refl _ w).alloc (Nat.le_refl _) _⟩
set_option maxHeartbeats 1000000 in
theorem rone_attr (g k l s t nx : Int) (rp ep : Option Addr) (rn rc en ec : Nat) (w : World) (hg : 1 ≤ g ∧ g ≤ 1099511627776) (ha : At.right k l s t = false) :
    Calls Tryz.prog 69 #[.agg #[.int .i64 g, .int .i64 k, .int .i64 l, .int .i64 s, .int .i64 t, .slice rp rn rc, .slice ep en ec, .int .i64 nx]] w fun e w' => e = .returned (.bool false) ∧ Below w.heap.size w w' := by
  have HA : Hid (At.right k l s t = false) := ha
  have hg1 : ¬ g < 1 := by omega
  have hg2 : ¬ 1099511627776 < g := by omega
  clear hg ha
  go_enter Tryz.func69, Tryz.ntmps69
  go_wp2_with fail
  refine (aright_any _ _ _ _ _).mono ?_
  rintro e w' ⟨rfl, rfl⟩
  rw [HA.out]
  go_wp2
  go_ret
  exact ⟨rfl, ((Below.refl _ w).alloc (Nat.le_refl _) _).alloc (by simp) _⟩
set_option maxHeartbeats 1000000 in
theorem rone_dir (g l s t nx : Int) (rp ep : Option Addr) (rn rc en ec : Nat) (w : World) (hg : 1 ≤ g ∧ g ≤ 1099511627776) (ha : At.right 2 l s t = true) :
    Calls Tryz.prog 69 #[.agg #[.int .i64 g, .int .i64 2, .int .i64 l, .int .i64 s, .int .i64 t, .slice rp rn rc, .slice ep en ec, .int .i64 nx]] w fun e w' => e = .returned (.bool (decide (rn = 0))) ∧ Below w.heap.size w w' := by
  have HA : Hid (At.right 2 l s t = true) := ha
  have hg1 : ¬ g < 1 := by omega
  have hg2 : ¬ 1099511627776 < g := by omega
  clear hg ha
  by_cases hr : rn = 0
  · have hr' : ¬ (0 : Int) < (rn : Int) := by omega
    rw [decide_eq_true hr]
    clear hr
    go_enter Tryz.func69, Tryz.ntmps69
    go_wp2_with fail
    refine (aright_any _ _ _ _ _).mono ?_
    rintro e w' ⟨rfl, rfl⟩
    rw [HA.out]
    go_wp2
    go_ret
    exact ⟨rfl, ((Below.refl _ w).alloc (Nat.le_refl _) _).alloc (by simp) _⟩
  · have hr' : (0 : Int) < (rn : Int) := by omega
    rw [decide_eq_false hr]
    clear hr
    go_enter Tryz.func69, Tryz.ntmps69
    go_wp2_with fail
    refine (aright_any _ _ _ _ _).mono ?_
    rintro e w' ⟨rfl, rfl⟩
    rw [HA.out]
    go_wp2
    go_ret
    exact ⟨rfl, ((Below.refl _ w).alloc (Nat.le_refl _) _).alloc (by simp) _⟩
set_option maxHeartbeats 1000000 in
theorem rone_free (g l s t nx : Int) (rp ep : Option Addr) (rn rc en ec : Nat) (w : World) (hg : 1 ≤ g ∧ g ≤ 1099511627776) (ha : At.right 0 l s t = true) :
    Calls Tryz.prog 69 #[.agg #[.int .i64 g, .int .i64 0, .int .i64 l, .int .i64 s, .int .i64 t, .slice rp rn rc, .slice ep en ec, .int .i64 nx]] w fun e w' => e = .returned (.bool (decide (en = 0) && decide (nx = 0) && decide (rn = 0))) ∧ Below w.heap.size w w' := by
  have HA : Hid (At.right 0 l s t = true) := ha
  have hg1 : ¬ g < 1 := by omega
  have hg2 : ¬ 1099511627776 < g := by omega
  clear hg ha
  by_cases hr : rn = 0
  · have hr' : ¬ (0 : Int) < (rn : Int) := by omega
    rw [decide_eq_true hr, Bool.and_true]
    clear hr
    by_cases he : en = 0
    · have he' : ¬ (0 : Int) < (en : Int) := by omega
      rw [decide_eq_true he, Bool.true_and]
      clear he
      by_cases hn : nx = 0
      · have hn' : (nx != 0) = false := by simp [hn]
        rw [decide_eq_true hn]
        clear hn
        go_enter Tryz.func69, Tryz.ntmps69
        go_wp2_with fail
        refine (aright_any _ _ _ _ _).mono ?_
        rintro e w' ⟨rfl, rfl⟩
        rw [HA.out]
        go_wp2
        go_ret
        exact ⟨rfl, ((Below.refl _ w).alloc (Nat.le_refl _) _).alloc (by simp) _⟩
      · have hn' : (nx != 0) = true := by simp [hn]
        rw [decide_eq_false hn]
        clear hn
        go_enter Tryz.func69, Tryz.ntmps69
        go_wp2_with fail
        refine (aright_any _ _ _ _ _).mono ?_
        rintro e w' ⟨rfl, rfl⟩
        rw [HA.out]
        go_wp2
        go_ret
        exact ⟨rfl, ((Below.refl _ w).alloc (Nat.le_refl _) _).alloc (by simp) _⟩
    · have he' : (0 : Int) < (en : Int) := by omega
      rw [decide_eq_false he, Bool.false_and]
      clear he
      go_enter Tryz.func69, Tryz.ntmps69
      go_wp2_with fail
      refine (aright_any _ _ _ _ _).mono ?_
      rintro e w' ⟨rfl, rfl⟩
      rw [HA.out]
      go_wp2
      go_ret
      exact ⟨rfl, ((Below.refl _ w).alloc (Nat.le_refl _) _).alloc (by simp) _⟩
  · have hr' : (0 : Int) < (rn : Int) := by omega
    rw [decide_eq_false hr, Bool.and_false]
    clear hr
    go_enter Tryz.func69, Tryz.ntmps69
    go_wp2_with fail
    refine (aright_any _ _ _ _ _).mono ?_
    rintro e w' ⟨rfl, rfl⟩
    rw [HA.out]
    go_wp2
    go_ret
    exact ⟨rfl, ((Below.refl _ w).alloc (Nat.le_refl _) _).alloc (by simp) _⟩
set_option maxHeartbeats 1000000 in
theorem rone_fileno (g l s t nx : Int) (rp ep : Option Addr) (rn rc en ec : Nat) (w : World) (hg : 1 ≤ g ∧ g ≤ 1099511627776) (ha : At.right 1 l s t = true) (hb : ¬ (en = 0 ∧ nx = 0)) :
    Calls Tryz.prog 69 #[.agg #[.int .i64 g, .int .i64 1, .int .i64 l, .int .i64 s, .int .i64 t, .slice rp rn rc, .slice ep en ec, .int .i64 nx]] w fun e w' => e = .returned (.bool false) ∧ Below w.heap.size w w' := by
  have HA : Hid (At.right 1 l s t = true) := ha
  have hg1 : ¬ g < 1 := by omega
  have hg2 : ¬ 1099511627776 < g := by omega
  clear hg ha
  by_cases he : en = 0
  · have he' : ¬ (0 : Int) < (en : Int) := by omega
    have hn' : (nx != 0) = true := by
      simp
      intro h
      exact hb ⟨he, h⟩
    clear he hb
    go_enter Tryz.func69, Tryz.ntmps69
    go_wp2_with fail
    refine (aright_any _ _ _ _ _).mono ?_
    rintro e w' ⟨rfl, rfl⟩
    rw [HA.out]
    go_wp2
    go_ret
    exact ⟨rfl, ((Below.refl _ w).alloc (Nat.le_refl _) _).alloc (by simp) _⟩
  · have he' : (0 : Int) < (en : Int) := by omega
    clear he hb
    go_enter Tryz.func69, Tryz.ntmps69
    go_wp2_with fail
    refine (aright_any _ _ _ _ _).mono ?_
    rintro e w' ⟨rfl, rfl⟩
    rw [HA.out]
    go_wp2
    go_ret
    exact ⟨rfl, ((Below.refl _ w).alloc (Nat.le_refl _) _).alloc (by simp) _⟩
set_option maxHeartbeats 1000000 in
theorem rone_filebad (g l s t : Int) (rp ep : Option Addr) (rn rc ec : Nat) (w : World) (hg : 1 ≤ g ∧ g ≤ 1099511627776) (ha : At.right 1 l s t = true) (rs : List (Int × ByteArray)) (hr : AtW ER w (.slice rp rn rc) rs) (ho : okFields rs) (hq : ¬ Bl.right (-1) rs) :
    Calls Tryz.prog 69 #[.agg #[.int .i64 g, .int .i64 1, .int .i64 l, .int .i64 s, .int .i64 t, .slice rp rn rc, .slice ep 0 ec, .int .i64 0]] w fun e w' => e = .returned (.bool false) ∧ Below w.heap.size w w' := by
  have hw : Below w.heap.size w ((w.alloc (.cells #[.int .i64 g, .int .i64 1, .int .i64 l, .int .i64 s, .int .i64 t, .slice rp rn rc, .slice ep 0 ec, .int .i64 0] 65)).alloc (BA 1 l s t)) := ((Below.refl _ w).alloc (Nat.le_refl _) _).alloc (by simp) _
  have HF : Hid (FieldsAt ((w.alloc (.cells #[.int .i64 g, .int .i64 1, .int .i64 l, .int .i64 s, .int .i64 t, .slice rp rn rc, .slice ep 0 ec, .int .i64 0] 65)).alloc (BA 1 l s t)).heap.size ((w.alloc (.cells #[.int .i64 g, .int .i64 1, .int .i64 l, .int .i64 s, .int .i64 t, .slice rp rn rc, .slice ep 0 ec, .int .i64 0] 65)).alloc (BA 1 l s t)) (.slice rp rn rc) rs) := (hr.up hw).fields
  have HO : Hid (okFields rs) := ho
  have HW : Hid (Below w.heap.size w ((w.alloc (.cells #[.int .i64 g, .int .i64 1, .int .i64 l, .int .i64 s, .int .i64 t, .slice rp rn rc, .slice ep 0 ec, .int .i64 0] 65)).alloc (BA 1 l s t))) := hw
  have HA8 : Hid (((w.alloc (.cells #[.int .i64 g, .int .i64 1, .int .i64 l, .int .i64 s, .int .i64 t, .slice rp rn rc, .slice ep 0 ec, .int .i64 0] 65)).alloc (BA 1 l s t)).heap[w.heap.size]? = some (.cells #[.int .i64 g, .int .i64 1, .int .i64 l, .int .i64 s, .int .i64 t, .slice rp rn rc, .slice ep 0 ec, .int .i64 0] 65 (0, 0))) := (Below.heap_alloc _ _ _ (by simp)).trans (heap_alloc_new _ _)
  have HA : Hid (At.right 1 l s t = true) := ha
  have hg1 : ¬ g < 1 := by omega
  have hg2 : ¬ 1099511627776 < g := by omega
  clear hg ha
  have HQ : Hid (decide (Bl.right (-1) rs) = false) := decide_eq_false hq
  clear hr ho hq hw
  go_enter Tryz.func69, Tryz.ntmps69
  go_wp2_with fail
  refine (aright_any _ _ _ _ _).mono ?_
  rintro e w' ⟨rfl, rfl⟩
  rw [HA.out]
  go_wp2_with fail
  refine (bright_any _ rs _ HF.out HO.out).mono ?_
  rintro e w2 ⟨rfl, hb2⟩
  rw [HQ.out]
  have HB2 : Hid (Below w.heap.size w w2) := HW.out.trans (hb2.mono HW.out.size)
  clear hb2
  go_wp2
  go_ret
  exact ⟨rfl, HB2.out⟩
set_option maxHeartbeats 1000000 in
theorem rone_file (g l s t : Int) (rp ep : Option Addr) (rn rc ec : Nat) (w : World) (hg : 1 ≤ g ∧ g ≤ 1099511627776) (ha : At.right 1 l s t = true) (rs : List (Int × ByteArray)) (hr : AtW ER w (.slice rp rn rc) rs) (ho : okFields rs) (hq : Bl.right (-1) rs) :
    Calls Tryz.prog 69 #[.agg #[.int .i64 g, .int .i64 1, .int .i64 l, .int .i64 s, .int .i64 t, .slice rp rn rc, .slice ep 0 ec, .int .i64 0]] w fun e w' => e = .returned (.bool (decide (∀ r ∈ rs, r.1 + r.2.size ≤ s))) ∧ Below w.heap.size w w' := by
  have hw : Below w.heap.size w ((w.alloc (.cells #[.int .i64 g, .int .i64 1, .int .i64 l, .int .i64 s, .int .i64 t, .slice rp rn rc, .slice ep 0 ec, .int .i64 0] 65)).alloc (BA 1 l s t)) := ((Below.refl _ w).alloc (Nat.le_refl _) _).alloc (by simp) _
  have HF : Hid (FieldsAt ((w.alloc (.cells #[.int .i64 g, .int .i64 1, .int .i64 l, .int .i64 s, .int .i64 t, .slice rp rn rc, .slice ep 0 ec, .int .i64 0] 65)).alloc (BA 1 l s t)).heap.size ((w.alloc (.cells #[.int .i64 g, .int .i64 1, .int .i64 l, .int .i64 s, .int .i64 t, .slice rp rn rc, .slice ep 0 ec, .int .i64 0] 65)).alloc (BA 1 l s t)) (.slice rp rn rc) rs) := (hr.up hw).fields
  have HO : Hid (okFields rs) := ho
  have HW : Hid (Below w.heap.size w ((w.alloc (.cells #[.int .i64 g, .int .i64 1, .int .i64 l, .int .i64 s, .int .i64 t, .slice rp rn rc, .slice ep 0 ec, .int .i64 0] 65)).alloc (BA 1 l s t))) := hw
  have HA8 : Hid (((w.alloc (.cells #[.int .i64 g, .int .i64 1, .int .i64 l, .int .i64 s, .int .i64 t, .slice rp rn rc, .slice ep 0 ec, .int .i64 0] 65)).alloc (BA 1 l s t)).heap[w.heap.size]? = some (.cells #[.int .i64 g, .int .i64 1, .int .i64 l, .int .i64 s, .int .i64 t, .slice rp rn rc, .slice ep 0 ec, .int .i64 0] 65 (0, 0))) := (Below.heap_alloc _ _ _ (by simp)).trans (heap_alloc_new _ _)
  have HA : Hid (At.right 1 l s t = true) := ha
  have hg1 : ¬ g < 1 := by omega
  have hg2 : ¬ 1099511627776 < g := by omega
  clear hg ha
  have HQ : Hid (decide (Bl.right (-1) rs) = true) := decide_eq_true hq
  have HQR : Hid (∀ r ∈ rs, -1 < r.1 ∧ r.1 + r.2.size ≤ 1048576) := fun r hr => by
    have := Bl.right_mem hq r hr
    exact ⟨this.2.1, this.2.2⟩
  obtain ⟨res, hres⟩ : ∃ res, decide (∀ r ∈ rs, r.1 + r.2.size ≤ s) = res := ⟨_, rfl⟩
  have HRES : Hid (decide (∀ r ∈ rs, r.1 + r.2.size ≤ s) = res) := hres
  rw [hres]
  obtain ⟨hlen, _⟩ : rn = rs.length ∧ True := by
    obtain ⟨_, _, h1, _⟩ := hr.open
    simp only [Value.slice.injEq] at h1
    exact ⟨h1.2.1, trivial⟩
  have HLN : Hid (rn = rs.length) := hlen
  have hrn : rn ≤ 9223372036854775807 := by
    obtain ⟨_, _, _, h2, _⟩ := hr.open
    unfold maxLen at h2
    omega
  clear hr ho hq hw hres hlen
  go_enter Tryz.func69, Tryz.ntmps69
  go_wp2_with fail
  refine (aright_any _ _ _ _ _).mono ?_
  rintro e w' ⟨rfl, rfl⟩
  rw [HA.out]
  go_wp2_with fail
  refine (bright_any _ rs _ HF.out HO.out).mono ?_
  rintro e w2 ⟨rfl, hb2⟩
  rw [HQ.out]
  have HB2 : Hid (Below w.heap.size w w2) := HW.out.trans (hb2.mono HW.out.size)
  have HA2 : Hid (w2.heap[w.heap.size]? = some (.cells #[.int .i64 g, .int .i64 1, .int .i64 l, .int .i64 s, .int .i64 t, .slice rp rn rc, .slice ep 0 ec, .int .i64 0] 65 (0, 0))) := (hb2.block _ (by simp; omega)).trans HA8.out
  have hF2 := HF.out.up hb2
  obtain ⟨ao', cap', hv', _, hx⟩ := hF2.open
  simp only [Value.slice.injEq] at hv'
  obtain ⟨rfl, -, rfl⟩ := hv'
  have HX : Hid (∀ j, j < rs.length → ∃ b off, rp = some ⟨b, off, none⟩ ∧ b < w2.heap.size ∧ w2.cell? ⟨b, off + j * 2, none⟩ = some (.int .i64 (rs.getD j (0, .empty)).1) ∧ w2.cell? ⟨b, off + j * 2 + 1, none⟩ = some (.string (rs.getD j (0, .empty)).2)) := hx
  have c5 : w2.cell? ⟨w.heap.size, 5, none⟩ = some (.slice rp rn rc) := by simp [World.cell?, HA2.out]
  have HC3 : Hid (w2.cell? ⟨w.heap.size, 3, none⟩ = some (.int .i64 s)) := by show w2.cell? _ = _; simp [World.cell?, HA2.out]
  have hws : w.heap.size < w2.heap.size := (Array.getElem?_eq_some_iff.1 HA2.out).1
  clear hb2 hx hF2
  go_wp2
  go_loopw [55] (fun i wr => ∃ k : Nat, k ≤ rn ∧ i = .int .i64 k ∧ (∀ r ∈ rs.take k, r.1 + r.2.size ≤ s) ∧ Below w2.heap.size w2 wr) (fun i _ => rn - (intOf i).toNat)
  case atStart => exact ⟨0, Nat.zero_le _, rfl, by simp, Below.refl _ _⟩
  case round =>
    obtain ⟨k, hk, rfl, hall, hbl⟩ := hrel
    have HALL : Hid (∀ r ∈ rs.take k, r.1 + r.2.size ≤ s) := hall
    have hsz := hbl.size
    clear hall
    by_cases hlt : k < rn
    · obtain ⟨b, off, rfl, hB, c0, c1⟩ := HX.out k (by rw [← HLN.out]; exact hlt)
      have hk' : k < rs.length := by rw [← HLN.out]; exact hlt
      have hget : rs[k]? = some (rs.getD k (0, .empty)) := by simp [List.getD, hk']
      rw [← hbl.cell (p := ⟨b, off + k * 2, none⟩) hB] at c0
      rw [← hbl.cell (p := ⟨b, off + k * 2 + 1, none⟩) hB] at c1
      have HT := It.take_succ hget
      have hmem := List.mem_of_getElem? hget
      have hbd := HQR.out _ hmem
      generalize rs.getD k (0, .empty) = x at c0 c1 HT hbd hmem hget
      obtain ⟨xa, xs⟩ := x
      simp only at c0 c1 hbd
      obtain ⟨hb0, hb1⟩ := hbd
      have HTT : Hid (rs.take (k + 1) = rs.take k ++ [(xa, xs)] ∧ (xa, xs) ∈ rs) := ⟨HT, hmem⟩
      have d3 : (wr.alloc (.cells #[.int .i64 xa, .string xs] 132)).cell? ⟨w.heap.size, 3, none⟩ = some (.int .i64 s) := by
        rw [World.cell?_alloc_lt _ _ _ (by show w.heap.size < _; omega)]
        exact (hbl.cell (p := ⟨w.heap.size, 3, none⟩) hws).trans HC3.out
      have hlt' : (k : Int) < (rn : Int) := by omega
      clear HT hmem hget hB
      by_cases hc : s < xa + (xs.size : Int)
      · have H : Hid (res = false) := by
          show res = false
          rw [← HRES.out]
          apply decide_eq_false
          intro h
          have := h _ HTT.out.2
          simp only at this
          omega
        go_wp2
        go_ret
        rw [H.out]
        exact ⟨rfl, (HB2.out.trans (hbl.mono HB2.out.size)).alloc (by have := HB2.out.size; omega) _⟩
      · go_wp2
        go_roundw
        case rel =>
          refine ⟨k + 1, by omega, by go_num, fun r hr => ?_, hbl.alloc hsz _⟩
          rw [HTT.out.1, List.mem_append] at hr
          rcases hr with hr | hr
          · exact HALL.out r hr
          · simp at hr
            subst hr
            simp only
            omega
        case measure => simp [intOf]; omega
    · obtain rfl : k = rn := by omega
      have H : Hid (res = true) := by
        show res = true
        rw [← HRES.out]
        apply decide_eq_true
        have := HALL.out
        rwa [HLN.out, List.take_length] at this
      go_wp2
      go_ret
      rw [H.out]
      exact ⟨rfl, HB2.out.trans (hbl.mono HB2.out.size)⟩

theorem rone_any {S : Nat → Prop} (x : Rw) (w : World) (h : Good S w x) : Calls Tryz.prog 69 #[VI x] w fun e w' => e = .returned (.bool (one x.i)) ∧ Below w.heap.size w w' := by
  obtain ⟨hrn, hen⟩ := h.len
  obtain ⟨hr, _, ho, _⟩ := h
  obtain ⟨⟨g, k, l, s, t, rs, es, nx⟩, rp, rn, rc, ep, en, ec⟩ := x
  simp only at hrn hen hr ho ⊢
  by_cases hg : 1 ≤ g ∧ g ≤ 1099511627776
  · cases ha : At.right k l s t with
    | false =>
      rw [one_attr ha]
      exact rone_attr g k l s t nx rp ep rn rc en ec w hg ha
    | true =>
      rcases kind_bd ha with rfl | rfl | rfl
      · rw [one_free hg ha, isEmpty_len es hen, isEmpty_len rs hrn]
        exact rone_free g l s t nx rp ep rn rc en ec w hg ha
      · rw [one_file hg ha, isEmpty_len es hen]
        by_cases hb : en = 0 ∧ nx = 0
        · rw [decide_eq_true hb.1, decide_eq_true hb.2]
          obtain ⟨rfl, rfl⟩ := hb
          by_cases hq : Bl.right (-1) rs
          · have hs0 : 0 ≤ s := by
              rcases At.right_iff.1 ha with h | h
              · omega
              · exact h.1.1
            have e : decide (Bl.endOf rs ≤ s) = decide (∀ r ∈ rs, r.1 + r.2.size ≤ s) := decide_eq_decide.2 (Bl.end_le hq hs0)
            rw [decide_eq_true hq, e]
            exact rone_file g l s t rp ep rn rc ec w hg ha rs hr.wide ho hq
          · rw [decide_eq_false hq]
            exact rone_filebad g l s t rp ep rn rc ec w hg ha rs hr.wide ho hq
        · rw [show (decide (en = 0) && decide (nx = 0)) = false from by simpa using hb]
          exact rone_fileno g l s t nx rp ep rn rc en ec w hg ha hb
      · rw [one_dir hg ha, isEmpty_len rs hrn]
        exact rone_dir g l s t nx rp ep rn rc en ec w hg ha
  · rw [one_gen hg]
    by_cases h1 : g < 1
    · exact rone_lo g k l s t nx rp ep rn rc en ec w h1
    · exact rone_hi g k l s t nx rp ep rn rc en ec w h1 (by omega)
end Go.Proofs.YtacghcoikekfeaaGreat
