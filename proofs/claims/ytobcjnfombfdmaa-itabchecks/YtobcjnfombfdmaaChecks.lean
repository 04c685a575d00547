/-
  For any table sextonlaw09.ItabChecks returns true, whatever the memory: which tables are right, what they hold, and the new one, are the document's. No condition.
-/
import Derived.Test.YtobcjnfombfdmaaRefC
import Derived.Test.YtobcjnfombfdmaaAgain
import Derived.Test.YtobcjnfombfdmaaSame
import Derived.Test.YtobcjnfombfdmaaBytes
import Derived.Test.YtobcjnfombfdmaaOpenT
import Derived.Test.YtobcjnfombfdmaaLaw
namespace Go.Proofs.Ytobcjnfombfdmaa
open Go.ChangeShapes Go.WideShapes Go.ChangeAt Go.RowKit Go.Deep It

namespace It
/-- The bytes of all runs, as a sum that goes round. -/
def allBytes (L : List Ino) : Int := L.foldl (fun y x => wrap64 (y + Bl.sumw x.runs)) 0
theorem bytes_succ {L : List Ino} {k : Nat} {x : Ino} (h : L[k]? = some x) : allBytes (L.take (k + 1)) = wrap64 (allBytes (L.take k) + Bl.sumw x.runs) := by
  unfold allBytes
  rw [take_succ h, List.foldl_append]
  rfl
theorem wrap_wrap (a b : Int) : wrap64 (a + wrap64 b) = wrap64 (a + b) := by
  unfold wrap64
  omega
theorem sumw_from (l : List Bl.R) : ∀ y : Int, l.foldl (fun y r => wrap64 (y + (r.2.size : Int))) (wrap64 y) = wrap64 (y + Bl.sumw l) := by
  have key : ∀ (l : List Bl.R) (y z : Int), l.foldl (fun y r => wrap64 (y + (r.2.size : Int))) (wrap64 (y + z)) = wrap64 (y + l.foldl (fun y r => wrap64 (y + (r.2.size : Int))) (wrap64 z)) := by
    intro l
    induction l with
    | nil => intro y z; simp only [List.foldl_nil]; rw [wrap_wrap]
    | cons r l ih =>
      intro y z
      simp only [List.foldl_cons]
      have e1 : wrap64 (wrap64 (y + z) + (r.2.size : Int)) = wrap64 (y + (z + (r.2.size : Int))) := by unfold wrap64; omega
      have e2 : wrap64 (wrap64 z + (r.2.size : Int)) = wrap64 (z + (r.2.size : Int)) := by unfold wrap64; omega
      rw [e1, e2, ih]
  intro y
  have := key l y 0
  rw [Int.add_zero] at this
  rw [this, show wrap64 (0 : Int) = 0 from by unfold wrap64; decide]
  rfl
/-- The sum behind the first j runs of the inode behind the first k. -/
def bytesAt (L : List Ino) (k j : Nat) (x : Ino) : Int := (x.runs.take j).foldl (fun y r => wrap64 (y + (r.2.size : Int))) (allBytes (L.take k))
theorem bytes_wrapped (L : List Ino) : wrap64 (allBytes L) = allBytes L := by
  rcases List.eq_nil_or_concat L with rfl | ⟨m, s, rfl⟩
  · show wrap64 (0 : Int) = 0
    unfold wrap64
    decide
  · unfold allBytes
    rw [List.concat_eq_append, List.foldl_append]
    simp only [List.foldl_cons, List.foldl_nil]
    unfold wrap64
    omega
theorem bytesAt_end (L : List Ino) (k : Nat) (x : Ino) : bytesAt L k x.runs.length x = wrap64 (allBytes (L.take k) + Bl.sumw x.runs) := by
  unfold bytesAt
  rw [List.take_length, ← sumw_from, bytes_wrapped]
theorem bytesAt_succ {L : List Ino} {k j : Nat} {x : Ino} {r : Int × ByteArray} (h : x.runs[j]? = some r) : bytesAt L k (j + 1) x = wrap64 (bytesAt L k j x + (r.2.size : Int)) := by
  unfold bytesAt
  rw [take_succ h, List.foldl_append]
  rfl
end It

set_option maxHeartbeats 2000000 in
theorem ibytes_any {S : Nat → Prop} (v : Value) (L : List Rw) (w : World) (hv : TabAt S w v L) :
    Calls Try.prog 12 #[v] w fun e w' => e = .returned (.int .i64 (allBytes (pl L))) ∧ Below w.heap.size w w' := by
  obtain ⟨ao, cap, rfl, hm, hx⟩ := hv.open
  clear hv
  unfold maxLen at hm
  obtain ⟨n, hn⟩ : ∃ n, L.length = n := ⟨_, rfl⟩
  rw [hn] at hm ⊢
  have HN : Hid (L.length = n) := hn
  have HX : Hid (∀ i x, L[i]? = some x → (∃ b off, ao = some ⟨b, off, none⟩ ∧ b < w.heap.size ∧ eight w b (off + i * 8) x) ∧ Good S w x) := hx
  clear hn hx
  go_enter Try.func12, Try.ntmps12
  go_wp2
  go_loopw [3, 8] (fun t i wr => ∃ (k : Nat) (y : Int), k ≤ n ∧ i = .int .i64 k ∧ t = .int .i64 y ∧ y = allBytes ((pl L).take k) ∧ Below w.heap.size w wr) (fun _ i _ => n - (intOf i).toNat)
  case atStart => exact ⟨0, 0, Nat.zero_le _, rfl, rfl, rfl, Below.refl _ _⟩
  case round =>
    obtain ⟨k, y, hk, rfl, rfl, hy, hbl⟩ := hrel
    have HY : Hid (y = allBytes ((pl L).take k)) := hy
    have hsz := hbl.size
    clear hy
    by_cases hlt : k < n
    · obtain ⟨x, hxk⟩ : ∃ y, L[k]? = some y := ⟨_, List.getElem?_eq_getElem (by rw [HN.out]; exact hlt)⟩
      obtain ⟨⟨b, off, rfl, hB, hc⟩, hg⟩ := HX.out k x hxk
      obtain ⟨d0, d1, d2, d3, d4, d5, d6, d7⟩ := hc.below hbl hB
      have HS : Hid (allBytes ((pl L).take (k + 1)) = wrap64 (allBytes ((pl L).take k) + Bl.sumw x.i.runs)) := bytes_succ (It.pl_get hxk)
      have HGX : Hid (Good S wr x) := hg.up hbl
      obtain ⟨X, hX⟩ : ∃ X, X = x := ⟨_, rfl⟩
      rw [← hX] at HS HGX
      have hrr : (Value.slice x.rp x.rn x.rc) = .slice X.rp X.rn X.rc := by rw [hX]
      obtain ⟨⟨g, kk, l, s, t, rs, es, nx⟩, rp, rn, rc, ep, en, ec⟩ := x
      simp only at d0 d1 d2 d3 d4 d5 d6 d7 hrr
      have HRF : Hid (FieldsAt (wr.alloc (B8 g kk l s t (.slice rp rn rc) (.slice ep en ec) nx)).heap.size (wr.alloc (B8 g kk l s t (.slice rp rn rc) (.slice ep en ec) nx)) (.slice rp rn rc) X.i.runs) := by
        show FieldsAt _ _ _ _
        rw [hrr]
        exact (HGX.out.1.up ((Below.refl _ _).alloc (Nat.le_refl _) _)).fields
      have hlt' : (k : Int) < (n : Int) := by omega
      clear hxk hc hg hB hX hrr
      go_wp2_with fail
      refine (bbytes_any _ X.i.runs _ HRF.out).mono ?_
      rintro e w2 ⟨rfl, hb2⟩
      have HB2 : Hid (Below w.heap.size w w2) := (hbl.alloc hsz _).trans (hb2.mono (by simp; omega))
      clear hb2
      obtain ⟨sm, hsm⟩ : ∃ sm, Bl.sumw X.i.runs = sm := ⟨_, rfl⟩
      rw [hsm] at HS ⊢
      clear hsm
      go_wp2
      go_roundw
      case rel => exact ⟨k + 1, _, by omega, by go_num, rfl, by rw [HS.out, ← HY.out], HB2.out⟩
      case measure => simp [intOf]; omega
    · obtain rfl : k = n := by omega
      have HE : Hid (y = allBytes (pl L)) := by
        have h := HY.out
        rw [List.take_of_length_le (by simp [pl, HN.out])] at h
        exact h
      go_wp2
      go_ret
      exact ⟨by rw [HE.out]; rfl, hbl⟩

set_option maxHeartbeats 4000000 in
theorem rbytes_any {S : Nat → Prop} (v : Value) (L : List Rw) (w : World) (hv : TabAt S w v L) :
    Calls Try.prog 13 #[v] w fun e w' => e = .returned (.int .i64 (allBytes (pl L))) ∧ Below w.heap.size w w' := by
  obtain ⟨ao, cap, rfl, hm, hx⟩ := hv.open
  clear hv
  unfold maxLen at hm
  obtain ⟨n, hn⟩ : ∃ n, L.length = n := ⟨_, rfl⟩
  rw [hn] at hm ⊢
  have HN : Hid (L.length = n) := hn
  have HX : Hid (∀ i x, L[i]? = some x → (∃ b off, ao = some ⟨b, off, none⟩ ∧ b < w.heap.size ∧ eight w b (off + i * 8) x) ∧ Good S w x) := hx
  clear hn hx
  go_enter Try.func13, Try.ntmps13
  go_wp2
  go_loopw [3, 10] (fun t i wr => ∃ (k : Nat) (y : Int), k ≤ n ∧ i = .int .i64 k ∧ t = .int .i64 y ∧ y = allBytes ((pl L).take k) ∧ Below w.heap.size w wr) (fun _ i _ => n - (intOf i).toNat)
  case atStart => exact ⟨0, 0, Nat.zero_le _, rfl, rfl, rfl, Below.refl _ _⟩
  case round =>
    obtain ⟨k, y, hk, rfl, rfl, hy, hbl⟩ := hrel
    have HY : Hid (y = allBytes ((pl L).take k)) := hy
    have hsz := hbl.size
    clear hy
    by_cases hlt : k < n
    · obtain ⟨x, hxk⟩ : ∃ y, L[k]? = some y := ⟨_, List.getElem?_eq_getElem (by rw [HN.out]; exact hlt)⟩
      obtain ⟨⟨b, off, rfl, hB, hc⟩, hg⟩ := HX.out k x hxk
      obtain ⟨d0, d1, d2, d3, d4, d5, d6, d7⟩ := hc.below hbl hB
      have HS : Hid (allBytes ((pl L).take (k + 1)) = wrap64 (allBytes ((pl L).take k) + Bl.sumw x.i.runs)) := bytes_succ (It.pl_get hxk)
      have HGX : Hid (Good S wr x) := hg.up hbl
      have hrl := hg.len.1
      obtain ⟨X, hX⟩ : ∃ X, X = x := ⟨_, rfl⟩
      rw [← hX] at HS HGX
      have hrr : (Value.slice x.rp x.rn x.rc) = .slice X.rp X.rn X.rc := by rw [hX]
      have hri : x.i.runs = X.i.runs := by rw [hX]
      rw [hri] at hrl
      obtain ⟨⟨g, kk, l, s, t, rs, es, nx⟩, rp, rn, rc, ep, en, ec⟩ := x
      simp only at d0 d1 d2 d3 d4 d5 d6 d7 hrr hrl
      obtain ⟨W, hW⟩ : ∃ W, W = wr.alloc (B8 g kk l s t (.slice rp rn rc) (.slice ep en ec) nx) := ⟨_, rfl⟩
      have bW : Below wr.heap.size wr W := by rw [hW]; exact (Below.refl _ _).alloc (Nat.le_refl _) _
      have hFA : FieldsAt W.heap.size W (.slice rp rn rc) X.i.runs := by
        rw [hrr]
        exact (HGX.out.1.up bW).fields
      obtain ⟨ao', cap', hv', hm', hxr⟩ := hFA.open
      simp only [Value.slice.injEq] at hv'
      obtain ⟨rfl, -, rfl⟩ := hv'
      have HXR : Hid (∀ j, j < X.i.runs.length → ∃ b off, rp = some ⟨b, off, none⟩ ∧ b < W.heap.size ∧ W.cell? ⟨b, off + j * 2, none⟩ = some (.int .i64 (X.i.runs.getD j (0, .empty)).1) ∧ W.cell? ⟨b, off + j * 2 + 1, none⟩ = some (.string (X.i.runs.getD j (0, .empty)).2)) := hxr
      have HRL : Hid (rn = X.i.runs.length) := hrl
      have hrn : rn ≤ 9223372036854775807 := by unfold maxLen at hm'; omega
      have HBW : Hid (Below w.heap.size w W) := hbl.trans (bW.mono hsz)
      have HYB : Hid (y = bytesAt (pl L) k 0 X.i) := by show y = bytesAt (pl L) k 0 X.i; rw [HY.out]; rfl
      have hlt' : (k : Int) < (n : Int) := by omega
      clear hxk hc hg hB hX hrr hri hFA hxr hm' hrl bW
      go_wp2
      rw [← hW]
      clear hW d0 d1 d2 d3 d4 d5 d6 d7 HY hbl hsz
      go_loopw [3, 17] (fun t i w2 => ∃ (j : Nat) (z : Int), j ≤ rn ∧ i = .int .i64 j ∧ t = .int .i64 z ∧ z = bytesAt (pl L) k j X.i ∧ Below W.heap.size W w2) (fun _ i _ => rn - (intOf i).toNat)
      case atStart => exact ⟨0, y, Nat.zero_le _, rfl, rfl, HYB.out, Below.refl _ _⟩
      case round =>
        obtain ⟨j, z, hj, rfl, rfl, hz, hbl⟩ := hrel
        have HZ : Hid (z = bytesAt (pl L) k j X.i) := hz
        have hsz := hbl.size
        clear hz
        by_cases hjl : j < rn
        · obtain ⟨b2, off2, rfl, hB2, c0, c1⟩ := HXR.out j (by rw [← HRL.out]; exact hjl)
          have hget : X.i.runs[j]? = some (X.i.runs.getD j (0, .empty)) := by simp [List.getD, show j < X.i.runs.length from by rw [← HRL.out]; exact hjl]
          have HBS := bytesAt_succ (L := pl L) (k := k) hget
          rw [← hbl.cell (p := ⟨b2, off2 + j * 2, none⟩) hB2] at c0
          rw [← hbl.cell (p := ⟨b2, off2 + j * 2 + 1, none⟩) hB2] at c1
          generalize X.i.runs.getD j (0, .empty) = r at c0 c1 HBS hget
          obtain ⟨ra, rd⟩ := r
          simp only at c0 c1 HBS
          have HBS2 : Hid (bytesAt (pl L) k (j + 1) X.i = wrap64 (bytesAt (pl L) k j X.i + (rd.size : Int))) := HBS
          have hjI : (j : Int) < (rn : Int) := by omega
          clear HBS hget hB2
          go_wp2
          go_roundw
          case rel => exact ⟨j + 1, _, by omega, by go_num, rfl, by rw [HBS2.out, ← HZ.out], hbl.alloc hsz _⟩
          case measure => simp [intOf]; omega
        · obtain rfl : j = rn := by omega
          have HE : Hid (z = allBytes ((pl L).take (k + 1))) := by
            show z = _
            rw [HZ.out, HS.out, HRL.out, bytesAt_end]
          have HBZ : Hid (Below w.heap.size w wr) := HBW.out.trans (hbl.mono HBW.out.size)
          clear hbl hsz
          go_wp2
          go_roundw
          case rel => exact ⟨k + 1, _, by omega, by go_num, rfl, HE.out, HBZ.out⟩
          case measure => simp [intOf]; omega
    · obtain rfl : k = n := by omega
      have HE : Hid (y = allBytes (pl L)) := by
        have h := HY.out
        rw [List.take_of_length_le (by simp [pl, HN.out])] at h
        exact h
      go_wp2
      go_ret
      exact ⟨by rw [HE.out]; rfl, hbl⟩
set_option maxHeartbeats 8000000 in
set_option maxRecDepth 100000 in
theorem checks_any {S : Nat → Prop} (v : Value) (L : List Rw) (w : World) (hv : TabAt S w v L) (hL : L.length ≤ 1466015503701) :
    Calls Try.prog 3 #[v] w fun e w' => e = .returned (.bool true) ∧ Below w.heap.size w w' := by
  obtain ⟨i0, hi, hz0, hz1, hz2⟩ := info_parts infoH
  have HV : Hid (TabW w v L) := hv.wide
  obtain ⟨ao, cap, rfl, hm, hx⟩ := hv.open
  clear hv
  unfold maxLen at hm
  obtain ⟨n, hn⟩ : ∃ n, L.length = n := ⟨_, rfl⟩
  rw [hn] at hm hL HV ⊢
  have HN : Hid (L.length = n) := hn
  have HX : Hid (∀ i x, L[i]? = some x → (∃ b off, ao = some ⟨b, off, none⟩ ∧ b < w.heap.size ∧ eight w b (off + i * 8) x) ∧ Good S w x) := hx
  clear hn hx
  go_enter Try.func3, Try.ntmps3
  go_wp2
  go_loopw [3, 10] (fun u i wr => ∃ k : Nat, k ≤ n ∧ i = .int .i64 k ∧ Row EH wr w.heap.size 31 u (used ((pl L).take k)) ∧ Hid (Below w.heap.size w wr)) (fun _ i _ => n - (intOf i).toNat)
  case atStart => exact ⟨0, Nat.zero_le _, rfl, Row.nil _ _ _ _, Below.refl _ _⟩
  case round =>
    obtain ⟨k, hk, rfl, hrow, HB⟩ := hrel
    by_cases hlt : k < n
    · have h0 : L[k]? = some (L[k]'(by have := HN.out; omega)) := List.getElem?_eq_getElem _
      obtain ⟨y, hyk⟩ : ∃ y, L[k]? = some y := ⟨_, h0⟩
      clear h0
      obtain ⟨⟨b, off, rfl, hB', hc'⟩, _⟩ := HX.out k y hyk
      obtain ⟨d0, d1, d2, d3, d4, d5, d6, d7⟩ := hc'.below HB.out hB'
      have HU := It.used_take_succ (It.pl_get hyk)
      have hul := It.used_length ((pl L).take k)
      rw [List.length_take] at hul
      obtain ⟨pu, cu, hu⟩ := hrow.slice
      generalize used ((pl L).take k) = O at hrow hu HU hul
      obtain ⟨q, hq⟩ : ∃ q, O.length = q := ⟨_, rfl⟩
      have HQ : Hid (O.length = q) := hq
      rw [hq] at hu hul
      have hqk : q ≤ k := by omega
      subst hu
      have hlt' : (k : Int) < (n : Int) := by omega
      clear hyk hc' hq hul
      by_cases hkd : y.i.kind = 0
      · rw [if_pos hkd, List.append_nil] at HU
        have hkd' : (y.i.kind == 0) = true := by simp [hkd]
        have HU2 : Hid (used ((pl L).take (k + 1)) = O) := HU
        have HR : Hid (Row EH wr w.heap.size 31 (.slice pu q cu) O) := hrow
        clear hkd HU hrow
        go_wp2
        go_roundw
        case rel => exact ⟨k + 1, by omega, by go_num, by rw [HU2.out]; exact HR.out.still (World.grownBy_alloc _ _ _), HB.out.alloc HB.out.size _⟩
        case measure => simp [intOf]; omega
      · rw [if_neg hkd] at HU
        have hkd' : (y.i.kind == 0) = false := by simp [hkd]
        have HU2 : Hid (used ((pl L).take (k + 1)) = O ++ [((k : Int), y.i.gen)]) := HU
        have HR : Hid (Row EH wr w.heap.size 31 (.slice pu q cu) O) := hrow
        have hbs := HB.out.size
        obtain ⟨OB, hOB⟩ : ∃ OB, OB = (Obj.cells #[.int .i64 y.i.gen, .int .i64 y.i.kind, .int .i64 y.i.links, .int .i64 y.i.size, .int .i64 y.i.stamp, .slice y.rp y.rn y.rc, .slice y.ep y.en y.ec, .int .i64 y.i.next] 29) := ⟨_, rfl⟩
        have HI : Hid (AtW EH ((wr.alloc OB).alloc (BH k y.i.gen)) (.slice (some ⟨wr.heap.size + 1, 0, none⟩) 1 1) [((k : Int), y.i.gen)]) := by
          refine one_hand _ _ _ _ ?_
          have := heap_alloc_new (wr.alloc OB) (BH k y.i.gen)
          rw [show (wr.alloc OB).heap.size = wr.heap.size + 1 by simp] at this
          exact this
        rw [hOB] at HI
        clear hkd HU hrow hOB
        go_wp2_with (at_builtin; refine wpList_row _ rfl _ _ 23 rfl EH (fun _ => True) w.heap.size 31 i0 (.agg #[.int .i64 0, .int .i64 0]) 16 Try.underlying23 hi hz0 hz1 hz2 rfl (.slice pu q cu) O rfl ((HR.out.still (World.grownBy_alloc _ _ _)).still (World.grownBy_alloc _ _ _)) _ [((k : Int), y.i.gen)] rfl HI.out (by have := HQ.out; unfold maxLen; simp; omega) (by have := HQ.out; simp; omega) (by simp; omega) ?_; intro v7 w7 hrow7 hg7 hmv7)
        have HB7 : Hid (Below w.heap.size w w7) := ((HB.out.alloc hbs _).alloc (by simp; omega) _).grown hg7 (by simp; omega) (fun i hi => (HR.out.lt i hi).1)
        have HR7 : Hid (Row EH w7 w.heap.size 31 v7 (O ++ [((k : Int), y.i.gen)])) := hrow7
        clear hrow7 hg7 hmv7
        go_wp2
        go_roundw
        case rel => exact ⟨k + 1, by omega, by go_num, by rw [HU2.out]; exact HR7.out, HB7⟩
        case measure => simp [intOf]; omega
    · obtain rfl : k = n := by omega
      have HE : Hid (AtW EH wr u3 (used (pl L))) := by
        have h := hrow.at.wide
        rw [List.take_of_length_le (by have := HN.out; simp only [pl, List.length_map]; omega)] at h
        exact h
      have HV1 : Hid (TabW wr (.slice ao k cap) L) := ⟨HV.out.1.keep HB.out.size fun b _ hl => ⟨HB.out.block b hl, trivial⟩, fun x hx => (HV.out.2 x hx).keep HB.out.size fun b _ hl => ⟨HB.out.block b hl, trivial⟩⟩
      obtain ⟨U, hU⟩ : ∃ U, used (pl L) = U := ⟨_, rfl⟩
      have HUU : Hid (used (pl L) = U) := hU
      rw [hU] at HE
      obtain ⟨pu, cu, hu, hmu, hxu⟩ := HE.out.open
      subst hu
      clear hrow hU
      go_wp2_with fail
      refine (used_any _ L _ HV1.out (by rw [HN.out]; exact hL)).mono ?_
      rintro e w2 ⟨gt, rfl, hg2, hb2⟩
      rw [HUU.out] at hg2
      obtain ⟨pg, cg, hgv, _, hxg⟩ := hg2.open
      subst hgv
      obtain ⟨m, hm2⟩ : ∃ m, U.length = m := ⟨_, rfl⟩
      rw [hm2]
      have hmm : m ≤ 9223372036854775807 := by unfold maxLen at hmu; omega
      have HM : Hid (U.length = m) := hm2
      have HXU : Hid (∀ i x, U[i]? = some x → ∃ b off, pu = some ⟨b, off, none⟩ ∧ True ∧ b < wr.heap.size ∧ ∀ k u, (EH.cells x)[k]? = some u → wr.cell? ⟨b, off + (i * 2 + k), none⟩ = some u) := hxu
      have HXG : Hid (∀ i x, U[i]? = some x → ∃ b off, pg = some ⟨b, off, none⟩ ∧ True ∧ b < w2.heap.size ∧ ∀ k u, (EH.cells x)[k]? = some u → w2.cell? ⟨b, off + (i * 2 + k), none⟩ = some u) := hxg
      have HV2 : Hid (TabW w2 (.slice ao k cap) L) := HV1.out.up hb2
      have HB2 : Hid (Below w.heap.size w w2) := HB.out.trans (hb2.mono HB.out.size)
      have HW2 : Hid (Below wr.heap.size wr w2) := hb2
      clear hb2 hg2 hxu hxg hm2 HE hmu HX
      obtain ⟨wu, hwu⟩ : ∃ wu, wu = wr := ⟨_, rfl⟩
      rw [← hwu] at HXU HW2
      clear hwu
      go_wp2
      go_loopw [36] (fun i w3 => ∃ j : Nat, j ≤ m ∧ i = .int .i64 j ∧ Below w2.heap.size w2 w3) (fun i _ => m - (intOf i).toNat)
      case atStart => exact ⟨0, Nat.zero_le _, rfl, Below.refl _ _⟩
      case round =>
        obtain ⟨j, hj, rfl, hbl⟩ := hrel
        by_cases hjm : j < m
        · obtain ⟨⟨ya, yb⟩, hy⟩ : ∃ y, U[j]? = some y := ⟨_, List.getElem?_eq_getElem (by rw [HM.out]; exact hjm)⟩
          obtain ⟨b1, o1, rfl, _, hB1, hc1⟩ := HXU.out j _ hy
          obtain ⟨b2, o2, rfl, _, hB2, hc2⟩ := HXG.out j _ hy
          have c0 := hc1 0 _ rfl
          have c1 := hc1 1 _ rfl
          have e0 := hc2 0 _ rfl
          have e1 := hc2 1 _ rfl
          have hB1' : b1 < w2.heap.size := by have := HW2.out.size; omega
          rw [← HW2.out.cell (p := ⟨b1, o1 + (j * 2 + 0), none⟩) hB1, ← hbl.cell (p := ⟨b1, o1 + (j * 2 + 0), none⟩) hB1', Nat.add_zero] at c0
          rw [← HW2.out.cell (p := ⟨b1, o1 + (j * 2 + 1), none⟩) hB1, ← hbl.cell (p := ⟨b1, o1 + (j * 2 + 1), none⟩) hB1', ← Nat.add_assoc] at c1
          rw [← hbl.cell (p := ⟨b2, o2 + (j * 2 + 0), none⟩) hB2, Nat.add_zero] at e0
          rw [← hbl.cell (p := ⟨b2, o2 + (j * 2 + 1), none⟩) hB2, ← Nat.add_assoc] at e1
          simp only at c0 c1 e0 e1
          have hjI : (j : Int) < (m : Int) := by omega
          have hj0 : (0 : Int) ≤ (j : Int) := by omega
          clear hy hc1 hc2 hB1 hB1' hB2
          go_wp2
          go_quiet (fail)
          go_wp2
          go_roundw
          case rel => exact ⟨j + 1, by omega, by go_num, Go.below_drewN hbl _⟩
          case measure => simp [intOf]; omega
        · obtain rfl : j = m := by omega
          have HB3 : Hid (Below w.heap.size w wr) := HB2.out.trans (hbl.mono HB2.out.size)
          have HV3 : Hid (TabW wr (.slice ao k cap) L) := HV2.out.up hbl
          obtain ⟨rt, hrt⟩ : ∃ rt, It.right (pl L) = rt := ⟨_, rfl⟩
          have HRT : Hid (It.right (pl L) = rt ∧ It.checkErr (pl L) = if rt = true then 0 else 4) := ⟨hrt, by unfold It.checkErr; rw [hrt]⟩
          obtain ⟨by9, hby⟩ : ∃ by9, allBytes (pl L) = by9 := ⟨_, rfl⟩
          have HBY : Hid (allBytes (pl L) = by9) := hby
          clear hbl hrt hby HXU HXG
          go_wp2_with fail
          refine (check_any _ L _ HV3.out).mono ?_
          rintro e w4 ⟨rfl, hb4⟩
          rw [HRT.out.2]
          have HB4 : Hid (Below w.heap.size w w4) := HB3.out.trans (hb4.mono HB3.out.size)
          have HV4 : Hid (TabW w4 (.slice ao k cap) L) := HV3.out.up hb4
          obtain ⟨ce, hce⟩ : ∃ ce : Int, (if rt = true then (0 : Int) else 4) = ce := ⟨_, rfl⟩
          rw [hce]
          have HCE : Hid ((ce == 0) = rt) := by
            show (ce == 0) = rt
            rw [← hce]
            cases rt <;> rfl
          clear hb4 hce
          go_wp2_with fail
          refine (rright_any _ L _ HV4.out).mono ?_
          rintro e w5 ⟨rfl, hb5⟩
          rw [HRT.out.1]
          have HB5 : Hid (Below w.heap.size w w5) := HB4.out.trans (hb5.mono HB4.out.size)
          have HV5 : Hid (TabW w5 (.slice ao k cap) L) := HV4.out.up hb5
          have hce2 : ((ce == 0) == rt) = true := by rw [HCE.out]; simp
          clear hb5
          go_wp2_with fail
          refine (ibytes_any _ L _ HV5.out).mono ?_
          rintro e w6 ⟨rfl, hb6⟩
          rw [HBY.out]
          have HB6 : Hid (Below w.heap.size w w6) := HB5.out.trans (hb6.mono HB5.out.size)
          have HV6 : Hid (TabW w6 (.slice ao k cap) L) := HV5.out.up hb6
          clear hb6
          go_wp2_with fail
          refine (rbytes_any _ L _ HV6.out).mono ?_
          rintro e w7 ⟨rfl, hb7⟩
          rw [HBY.out]
          have HB7 : Hid (Below w.heap.size w w7) := HB6.out.trans (hb7.mono HB6.out.size)
          clear hb7
          go_wp2_with fail
          refine (new_any _).mono ?_
          rintro e w8 ⟨ta, L8, rfl, ht8, hp8, hb8⟩
          have HB8 : Hid (Below w.heap.size w w8) := HB7.out.trans (hb8.mono HB7.out.size)
          have HT8 : Hid (TabW w8 ta L8 ∧ pl L8 = It.new) := ⟨ht8.wide, hp8⟩
          clear ht8 hp8 hb8
          go_wp2_with fail
          refine (rnew_any _).mono ?_
          rintro e w9 ⟨tb, L9, rfl, ht9, hp9, hb9⟩
          have HB9 : Hid (Below w.heap.size w w9) := HB8.out.trans (hb9.mono HB8.out.size)
          have HT9 : Hid (TabW w9 ta L8 ∧ TabW w9 tb L9 ∧ pl L9 = It.new) := ⟨HT8.out.1.up hb9, ht9, hp9⟩
          clear ht9 hp9 hb9
          go_wp2_with fail
          refine (inodes_same _ _ L8 L9 _ HT9.out.1 HT9.out.2.1 (by rw [HT8.out.2, HT9.out.2.2])).mono ?_
          rintro e wA ⟨rfl, hbA⟩
          have HBA : Hid (Below w.heap.size w wA) := HB9.out.trans (hbA.mono HB9.out.size)
          clear hbA
          go_wp2_with fail
          refine (again_any _).mono ?_
          rintro e wB ⟨rfl, hbB⟩
          have HBB : Hid (Below w.heap.size w wB) := HBA.out.trans (hbB.mono HBA.out.size)
          clear hbB
          go_wp2
          go_ret
          exact ⟨rfl, HBB.out⟩

set_option maxRecDepth 100000 in
theorem itabChecks_lifted (os : Os) (started : os.Started) (H : Type) (enc : TypeId × Value → H) :
    ReturnsInHanded {} Try.checked os 3 .any (Rows.itabChecksSpec.pre6 enc Try.prog Try.f3 Rows.itabChecksRow.domain false) (Rows.itabChecksSpec.post enc Try.prog Try.f3 false true false false) := by
  refine returnsInHanded_of_change_sized (C := Try.checked) own started (by kernel_rfl) Try.func3
    (ChangeSpec.witness6 (enc := enc) (C := Try.checked) false ⟨#[], #[.slice none 0 0], []⟩ 8 (by kernel_rfl) (by kernel_rfl) (by kernel_rfl) (by kernel_rfl)) ?_
  intro W base args ds gs before hval0 hW hcnd hsized _
  have hval : ∀ (j : Nat) t v, Try.f3.params[j]? = some t → args[j]? = some v → Value.okWide Try.prog W .any base t v := hval0
  have hW' := hW
  have hlt : ∀ x ∈ before, x.block < W.heap.size := fun x hx => by simpa using hW'.lt x hx
  obtain ⟨p, q, hA0, hV, rfl, hfz, hnd⟩ := hW
  have hA : DataW.TrodAll enc Try.prog W 0 (fun _ => true) true Try.f3.params.toList args.toList ds p := hA0
  rw [Try.params3] at hA hval
  obtain ⟨v0, d0, rfl, rfl, h0⟩ := trodAll_one hA
  obtain ⟨rfl, rfl⟩ := trodVars_none hV
  have hwt0 : ∀ n ∈ d0.weights Try.prog 22, n ≤ reachBytes := fun n hn => by
    have := List.all_eq_true.1 hsized n (DataW.weights_mem_each (j := 0) (t := 22) (d := d0) rfl rfl n hn)
    simpa using this
  obtain ⟨L, hL, hLn⟩ := open_tab (okWide_slice Try.underlying22 (hval 0 22 v0 rfl rfl)) h0 hwt0
  refine (checks_any v0 L W hL hLn).mono fun e W' ⟨he, hg⟩ => ⟨_, he, ?_⟩
  exact Law.post laidOut (by kernel_rfl) rfl Try.underlying4 hW' rfl rfl hg

theorem itabChecks_holds : Rows.ItabChecksSaid :=
  OpenClaim.holds_of_wide 3 Try.f3 rfl rfl rfl rfl rfl rfl rfl ⟨rfl, rfl, rfl, rfl, rfl⟩ rfl rfl rfl rfl rfl (by kernel_rfl) Try.func3 (by kernel_rfl)
    (of_decide_eq_true (by kernel_rfl)) (by unfold Func.isWrapper; first | (rw [if_pos (by decide +kernel)]; kernel_rfl) | (rw [if_neg (by decide +kernel)]; exact ⟨rfl, rfl⟩))
    (fun os started H enc _ => itabChecks_lifted os started H enc)
#print axioms itabChecks_holds
end Go.Proofs.Ytobcjnfombfdmaa
