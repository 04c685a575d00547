/-
  The document's assembler in memory: a manifest and a list of shards; has and Missing.
-/
import Derived.Test.YtceeafmahoelfaaDoorHLaw
namespace Go.Proofs.YtceeafmahoelfaaDoor
open Go.ChangeShapes Go.WideShapes Go.ChangeAt Go.RowKit

namespace Sh
def hasL (L : List Sd) (n : Int) : Bool := L.any fun s => decide (s.number = n)
/-- What is there of a number. -/
def gat (L : List Sd) (i : Nat) : ByteArray := ⟨((L.filter fun s => decide (s.number = (i : Int))).flatMap fun s => s.data.toList).toArray⟩
theorem toListEq (s : ByteArray) : s.toList = s.data.toList := ByteArray.toList_eq ..
def gatL (L : List Sd) (i : Nat) : List UInt8 := (L.filter fun s => decide (s.number = (i : Int))).flatMap fun s => s.data.data.toList
theorem gat_list (L : List Sd) (i : Nat) : (gat L i).data.toList = gatL L i := by
  unfold gat gatL
  simp only [toListEq]
theorem gat_nil (i : Nat) : gat [] i = ⟨#[]⟩ := rfl
theorem gat_size (L : List Sd) (i : Nat) : (gat L i).size = (gatL L i).length := by
  rw [← gat_list]
  simp
theorem gatL_append (L M : List Sd) (i : Nat) : gatL (L ++ M) i = gatL L i ++ gatL M i := by simp [gatL]
theorem gatL_one (s : Sd) (i : Nat) : gatL [s] i = if s.number = (i : Int) then s.data.data.toList else [] := by
  unfold gatL
  by_cases h : s.number = (i : Int) <;> simp [h]
theorem has_gat {L : List Sd} (h : ∀ s ∈ L, s.data.size ≠ 0) (i : Nat) : hasL L i = decide ((gat L i).size ≠ 0) := by
  rw [gat_size]
  induction L with
  | nil => rfl
  | cons s L ih =>
    have ih := ih (fun t ht => h t (by simp [ht]))
    have e : gatL (s :: L) i = gatL [s] i ++ gatL L i := gatL_append [s] L i
    have e2 : hasL (s :: L) i = (decide (s.number = (i : Int)) || hasL L i) := rfl
    rw [e, e2, ih, gatL_one, List.length_append]
    have hs := h s (by simp)
    have hl : s.data.data.toList.length = s.data.size := by simp
    by_cases hn : s.number = (i : Int)
    · rw [if_pos hn]
      simp only [hn, decide_true, Bool.true_or]
      symm
      rw [decide_eq_true_eq]
      omega
    · rw [if_neg hn]
      simp [hn]
end Sh
/-- The block R holds the document's assembler of m with the list L. -/
def RAt (w : World) (B R : Nat) (m : Sh.Mf) (L : List Sh.Sd) : Prop := B ≤ R ∧ ∃ v, w.heap[R]? = some (.cells #[.int .i64 m.op, .int .i64 m.size, .int .i64 m.sum, v] 45 (0, 0)) ∧ Row SE w B 34 v L
theorem RAt.open {w : World} {B R : Nat} {m : Sh.Mf} {L : List Sh.Sd} (h : RAt w B R m L) : R < w.heap.size ∧ ∃ p c, w.cell? ⟨R, 0, none⟩ = some (.int .i64 m.op) ∧ w.cell? ⟨R, 1, none⟩ = some (.int .i64 m.size) ∧ w.cell? ⟨R, 2, none⟩ = some (.int .i64 m.sum) ∧ w.cell? ⟨R, 3, none⟩ = some (.slice p L.length c) ∧ Row SE w B 34 (.slice p L.length c) L := by
  obtain ⟨hB, v, hb, hr⟩ := h
  obtain ⟨p, c, rfl⟩ := hr.slice
  exact ⟨(Array.getElem?_eq_some_iff.1 hb).1, p, c, by simp [World.cell?, hb], by simp [World.cell?, hb], by simp [World.cell?, hb], by simp [World.cell?, hb], hr⟩
theorem RAt.kept {w w' : World} {B R A : Nat} {m : Sh.Mf} {L : List Sh.Sd} (h : RAt w B R m L) (hg : w.grownBy w' (some A)) (hA : ∃ cur T, w.heap[A]? = some (.cells cur T (0, 0)) ∧ T ≠ 45 ∧ T ≠ 34) : RAt w' B R m L := by
  obtain ⟨hB, v, hb, hr⟩ := h
  obtain ⟨cur, T, hA, h1, h2⟩ := hA
  refine ⟨hB, v, (hg.block R (Array.getElem?_eq_some_iff.1 hb).1 ?_).trans hb, hr.kept hg ?_⟩
  · intro e
    cases e
    rw [hb] at hA
    cases hA
    exact h1 rfl
  · rcases hr with ⟨rfl, rfl⟩ | ⟨g, cap, cc, rfl, _, hh, _⟩
    · exact .inl rfl
    · right
      intro e
      simp [Value.ownBlock] at e
      subst e
      rw [hh] at hA
      cases hA
      exact h2 rfl
theorem RAt.up {w w' : World} {B R : Nat} {m : Sh.Mf} {L : List Sh.Sd} (h : RAt w B R m L) (hb : Below w.heap.size w w') : RAt w' B R m L := by
  obtain ⟨hB, v, hk, hr⟩ := h
  exact ⟨hB, v, (hb.block R (Array.getElem?_eq_some_iff.1 hk).1).trans hk, hr.up hb⟩
set_option maxRecDepth 100000 in
set_option maxRecDepth 100000 in
set_option maxHeartbeats 1000000 in
theorem has_any (B R : Nat) (m : Sh.Mf) (L : List Sh.Sd) (n : Int) (w : World) (hR : RAt w B R m L) (hL : L.length ≤ 256) : Calls Tryd.prog 31 #[.pointer (some ⟨R, 0, none⟩), .int .i64 n] w fun e w' => e = .returned (.bool (Sh.hasL L n)) ∧ Below w.heap.size w w' := by
  obtain ⟨hRl, p, c, c0, c1, c2, c3, hrow⟩ := hR.open
  have HR : Hid (Row SE w B 34 (.slice p L.length c) L) := hrow
  obtain ⟨l, hl⟩ : ∃ l, L.length = l := ⟨_, rfl⟩
  rw [hl] at c3 HR hL
  have HLL : Hid (L.length = l) := hl
  clear hR hrow hl c0 c1 c2
  go_enter Tryd.func31, Tryd.ntmps31
  go_wp2
  go_loopw [12] (fun u wr => ∃ k : Nat, k ≤ l ∧ u = .int .i64 k ∧ Hid (∀ j s, j < k → L[j]? = some s → s.number ≠ n) ∧ Hid (Below w.heap.size w wr)) (fun u _ => l - (intOf u).toNat)
  case atStart => exact ⟨0, Nat.zero_le _, rfl, fun j s hj => by omega, Below.refl _ _⟩
  case round =>
    obtain ⟨k, hk, rfl, HK, HBL⟩ := hrel
    by_cases hlt : k < l
    · obtain ⟨y, hy⟩ : ∃ y, L[k]? = some y := ⟨_, List.getElem?_eq_getElem (by rw [HLL.out]; exact hlt)⟩
      obtain ⟨g1, cp1, hv1, _, hg1, x0, x1, x2, x3⟩ := (HR.out.up HBL.out).elem hy
      rw [HLL.out] at hv1
      cases hv1
      have hltI : (k : Int) < (l : Int) := by omega
      have hk0 : (0 : Int) ≤ (k : Int) := by omega
      have HY : Hid (L[k]? = some y) := hy
      obtain ⟨yo, yn, yd, yk⟩ := y
      simp only at x0 x1 x2 x3
      clear hy
      by_cases hn : yn = n
      · have HH : Hid (Sh.hasL L n = true) := show Sh.hasL L n = true by
          unfold Sh.hasL
          rw [List.any_eq_true]
          exact ⟨_, List.mem_of_getElem? HY.out, by simpa using hn⟩
        have hn' : (yn == n) = true := by simpa using hn
        clear hn
        go_wp2
        go_ret
        rw [HH.out]
        exact ⟨rfl, bup HBL.out (below_alloc _ _)⟩
      · have hn' : (yn == n) = false := by simpa using hn
        have HK' : Hid (∀ j s, j < k + 1 → L[j]? = some s → s.number ≠ n) := fun j s hj hs => by
          by_cases e : j = k
          · subst e
            rw [HY.out] at hs
            cases hs
            exact hn
          · exact HK.out j s (by omega) hs
        clear hn
        go_wp2
        go_roundw
        case rel => exact ⟨k + 1, by omega, by go_num, HK', bup HBL.out (below_alloc _ _)⟩
        case measure => simp [intOf]; omega
    · obtain rfl : l = k := by omega
      have HH : Hid (Sh.hasL L n = false) := show Sh.hasL L n = false by
        unfold Sh.hasL
        rw [List.any_eq_false]
        intro s hs
        obtain ⟨j, hj, rfl⟩ := List.getElem_of_mem hs
        simpa using HK.out j _ (by rw [← HLL.out]; exact hj) (List.getElem?_eq_getElem hj)
      go_wp2
      go_ret
      rw [HH.out]
      exact ⟨rfl, HBL.out⟩
set_option maxRecDepth 100000 in
set_option maxRecDepth 100000 in
set_option maxHeartbeats 1000000 in
theorem rmissing_any (B R : Nat) (m : Sh.Mf) (L : List Sh.Sd) (w : World) (hR : RAt w B R m L) (hL : L.length ≤ 256) (hm : Sh.okM m = true) (hne : ∀ s ∈ L, s.data.size ≠ 0) : Calls Tryd.prog 22 #[.pointer (some ⟨R, 0, none⟩)] w fun e w' => ∃ v n, e = .returned v ∧ w'.ownsRow w.heap.size 3 1 v n ((Sh.mis (Sh.gat L) (Sh.cnt m.size.toNat)).map (Value.int .i64)) ∧ Below w.heap.size w w' := by
  obtain ⟨k0, hk0, _, hk2⟩ := Sh.okM_size hm
  have HR : Hid (RAt w B R m L) := hR
  have HNE : Hid (∀ i : Nat, Sh.hasL L i = decide ((Sh.gat L i).size ≠ 0)) := fun i => Sh.has_gat hne i
  have hkk : m.size.toNat = k0 := by omega
  have HKK : Hid (m.size.toNat = k0) := hkk
  have HK0 : Hid (m.size = k0) := hk0
  have hcl : Sh.cnt k0 ≤ 256 := Sh.cnt_le hk2
  have HLE : Hid (k0 ≤ 65535) := hk2
  obtain ⟨i0, hi, hz0, hz1, hz2⟩ := info_parts info3
  clear hR hne hkk hm hk0
  obtain ⟨cc, hcc⟩ : ∃ cc, Sh.cnt k0 = cc := ⟨_, rfl⟩
  have HCC : Hid (Sh.cnt k0 = cc) := hcc
  rw [hcc] at hcl
  clear hcc
  go_enter Tryd.func22, Tryd.ntmps22
  go_wp2
  go_loopw [3, 4] (fun v u wr => ∃ k : Nat, k ≤ cc ∧ u = .int .i64 k ∧ wr.ownsRow w.heap.size 3 1 v (Sh.mis (Sh.gat L) k).length ((Sh.mis (Sh.gat L) k).map (Value.int .i64)) ∧ Below w.heap.size w wr) (fun _ u _ => cc - (intOf u).toNat)
  case atStart => exact ⟨0, Nat.zero_le _, rfl, World.ownsRow_nil _ _ _ _, Below.refl _ _⟩
  case round =>
    obtain ⟨k, hk, rfl, hrow, hbl⟩ := hrel
    have HRr : Hid (RAt wr B R m L) := HR.out.up hbl
    obtain ⟨hRl, p, c, c0, c1, c2, c3, _⟩ := HRr.out.open
    rw [HK0.out] at c1
    have hsz := hbl.size
    clear c0 c2 c3
    by_cases hlt : k < cc
    · have hp := (Sh.psz_pos (n := k0) (k := k) (by rw [HCC.out]; exact hlt)).1
      have hml := Sh.mis_len (Sh.gat L) k
      go_wp2_with fail
      refine (length_any k0 k _ HLE.out).mono ?_
      rintro e w1 ⟨rfl, rfl⟩
      generalize Sh.psz k0 k = z at *
      go_wp2_with fail
      refine (has_any B R m L k _ HRr.out hL).mono ?_
      rintro e w2 ⟨rfl, hb2⟩
      rw [HNE.out k]
      have hrow2 : w2.ownsRow w.heap.size 3 1 u3 (Sh.mis (Sh.gat L) k).length ((Sh.mis (Sh.gat L) k).map (Value.int .i64)) := hrow.kept (grown_of_below hb2 none) (by cases u3.ownBlock <;> simp)
      have hbl2 : Below w.heap.size w w2 := bup hbl hb2
      have hsz2 := hbl2.size
      clear hb2 hrow hbl c1 HRr
      by_cases h0 : (Sh.gat L k).size = 0
      · have HX : Hid (Sh.mis (Sh.gat L) (k + 1) = Sh.mis (Sh.gat L) k ++ [(k : Int)]) := Sh.mis_yes h0
        rw [show decide ((Sh.gat L k).size ≠ 0) = false from by simp [h0]]
        clear h0
        go_wp2_with (at_builtin; refine wpList_append_own _ rfl _ _ 56 rfl w.heap.size 3 i0 (.int .i64 0) 1 8 Tryd.underlying56 hi hz0 hz1 hz2 rfl (by decide) _ _ _ rfl (hrow2.alloc _) ⟨_, 0, none⟩ 1 1 [.int .i64 k] rfl rfl ?c1 ?c2 ?c3 ?c4 ?c5 ?_)
        case c1 => exact one_new_at _ _ rfl _ _
        case c2 => exact ints_oneCell .i64 [(k : Int)]
        case c3 => unfold maxLen; omega
        case c4 => omega
        case c5 => simp; omega
        intro v3 w3 hown3 hg3 _
        have hga := grown_trans (World.grownBy_alloc w2 (.cells #[.int .i64 k] 3) u3.ownBlock) hg3
        have hb3 : Below w.heap.size w w3 := hbl2.grown hga hbl2.size (fun j hj => (hrow2.lt j hj).1)
        clear hg3 hga hrow2 hbl2
        go_wp2
        go_roundw
        case rel => exact ⟨k + 1, by omega, by go_num, by rw [HX.out]; simpa using hown3, hb3⟩
        case measure => simp [intOf]; omega
      · have HX : Hid (Sh.mis (Sh.gat L) (k + 1) = Sh.mis (Sh.gat L) k) := Sh.mis_no h0
        rw [show decide ((Sh.gat L k).size ≠ 0) = true from by simp [h0]]
        clear h0
        go_wp2
        go_roundw
        case rel => exact ⟨k + 1, by omega, by go_num, by rw [HX.out]; exact hrow2, hbl2⟩
        case measure => simp [intOf]; omega
    · obtain rfl : cc = k := by omega
      have hp := Sh.psz_out (n := k0) (k := (cc : Int)) (by rw [HCC.out]; omega)
      go_wp2_with fail
      refine (length_any k0 cc _ HLE.out).mono ?_
      rintro e w1 ⟨rfl, rfl⟩
      rw [hp]
      go_wp2
      go_ret
      rw [HKK.out, HCC.out]
      exact ⟨u3, _, rfl, hrow, hbl⟩
end Go.Proofs.YtceeafmahoelfaaDoor
