/-
  sextonref11.Stamp, asked, over what its Right answers.
-/
import Derived.Test.YtacghcoikekfeaaGreatSp9
import Derived.Test.YtacghcoikekfeaaGreatRefA
namespace Go.Proofs.YtacghcoikekfeaaGreat
open Go.ChangeShapes Go.WideShapes Go.ChangeAt Go.RowKit Go.Deep It
set_option maxRecDepth 100000
set_option maxHeartbeats 2000000 in
theorem rstamp_any {S : Nat → Prop} (v : Value) (L : List Rw) (w : World) (hv : TabAt S w v L) :
    Calls Tryz.prog 86 #[v] w fun e w' => e = .returned (.int .i64 (Sp.top (pl L))) ∧ Below w.heap.size w w' := by
  obtain ⟨ao, cap, rfl, hm, hx⟩ := hv.open
  clear hv
  unfold maxLen at hm
  obtain ⟨n, hn⟩ : ∃ n, L.length = n := ⟨_, rfl⟩
  rw [hn] at hm ⊢
  have HN : Hid (L.length = n) := hn
  have HX : Hid (∀ i x, L[i]? = some x → (∃ b off, ao = some ⟨b, off, none⟩ ∧ b < w.heap.size ∧ eight w b (off + i * 8) x) ∧ Good S w x) := hx
  obtain ⟨r, hr⟩ : ∃ r, Sp.top (pl L) = r := ⟨_, rfl⟩
  have HR : Hid (Sp.top (pl L) = r) := hr
  rw [hr]
  clear hr hn hx
  go_enter Tryz.func86, Tryz.ntmps86
  go_wp2
  go_loopw [3, 8] (fun g i wr => ∃ k : Nat, k ≤ n ∧ i = .int .i64 k ∧ g = .int .i64 (Sp.top (pl (L.take k))) ∧ Hid (Below w.heap.size w wr)) (fun _ i _ => n - (intOf i).toNat)
  case atStart => exact ⟨0, Nat.zero_le _, rfl, rfl, Below.refl _ _⟩
  case round =>
    obtain ⟨k, hk, rfl, rfl, HB⟩ := hrel
    have hsz := HB.out.size
    obtain ⟨g, hg⟩ : ∃ g, Sp.top (pl (L.take k)) = g := ⟨_, rfl⟩
    have HGG : Hid (Sp.top (pl (L.take k)) = g) := hg
    rw [hg]
    clear hg
    by_cases hlt : k < n
    · obtain ⟨x, hxk⟩ : ∃ x, L[k]? = some x := ⟨_, List.getElem?_eq_getElem (by rw [HN.out]; exact hlt)⟩
      have HXK : Hid (L[k]? = some x) := hxk
      obtain ⟨⟨b, off, rfl, hB, hc⟩, -⟩ := HX.out k x hxk
      obtain ⟨c0, c1, c2, c3, c4, c5, c6, c7⟩ := hc.below HB.out hB
      have hlt' : (k : Int) < (n : Int) := by omega
      clear hc hxk
      by_cases hgt : g < x.i.stamp
      · have HT : Hid (Sp.top (pl (L.take (k + 1))) = x.i.stamp) := by show Sp.top (pl (L.take (k + 1))) = _; rw [Sp.top_step HXK.out, HGG.out]; omega
        go_wp2
        go_roundw
        case rel => exact ⟨k + 1, by omega, by go_num, by rw [HT.out], HB.out.alloc hsz _⟩
        case measure => simp [intOf]; omega
      · have HT : Hid (Sp.top (pl (L.take (k + 1))) = g) := by show Sp.top (pl (L.take (k + 1))) = _; rw [Sp.top_step HXK.out, HGG.out]; omega
        go_wp2
        go_roundw
        case rel => exact ⟨k + 1, by omega, by go_num, by rw [HT.out], HB.out.alloc hsz _⟩
        case measure => simp [intOf]; omega
    · obtain rfl : k = n := by omega
      have HT : Hid (r = g) := by
        show r = g
        rw [← HGG.out, List.take_of_length_le (by rw [HN.out]; exact Nat.le_refl _), HR.out]
      go_wp2
      go_ret
      rw [HT.out]
      exact ⟨rfl, HB.out⟩
/-- What sextonref11.Right answers: proved elsewhere. -/
def RtSaid (R : List Ino → Bool) : Prop := ∀ (S : Nat → Prop) (v : Value) (L : List Rw) (w : World), TabAt S w v L → Sp.okN L → Calls Tryz.prog 11 #[v] w fun e w' => e = .returned (.bool (R (pl L))) ∧ Below w.heap.size w w'
def Sp.chk (R : List Ino → Bool) (L : List Ino) : Int := if R L = true then 0 else 4
set_option maxHeartbeats 2000000 in
theorem rasked_any {R : List Ino → Bool} (hR : RtSaid R) {S : Nat → Prop} (v : Value) (L : List Rw) (st : Int) (w : World) (hv : TabAt S w v L) (hok : Sp.okN L) :
    Calls Tryz.prog 48 #[v, .int .i64 st] w fun e w' => e = .returned (.int .i64 (Sp.stErr (Sp.chk R) (pl L) st)) ∧ Below w.heap.size w w' := by
  obtain ⟨i, hi⟩ : ∃ i, R (pl L) = i := ⟨_, rfl⟩
  have HC : Hid (Calls Tryz.prog 11 #[v] w fun e w' => e = .returned (.bool i) ∧ Below w.heap.size w w') := by rw [← hi]; exact hR S v L w hv hok
  have HV : Hid (TabAt S w v L) := hv
  obtain ⟨ao, cap, rfl, -, -⟩ := hv.open
  clear hv hok hR
  obtain ⟨t, ht⟩ : ∃ t, Sp.top (pl L) = t := ⟨_, rfl⟩
  have HT : Hid (Sp.top (pl L) = t) := ht
  cases i
  · have hE : Sp.stErr (Sp.chk R) (pl L) st = 4 := by unfold Sp.stErr Sp.chk; rw [hi]; rfl
    rw [hE]
    clear hE hi ht
    go_enter Tryz.func48, Tryz.ntmps48
    go_wp2_with fail
    refine HC.out.mono ?_
    rintro e w1 ⟨rfl, hb1⟩
    have HB1 : Hid (Below w.heap.size w w1) := hb1
    clear hb1
    go_wp2
    go_ret
    exact ⟨rfl, HB1.out⟩
  · have hE : Sp.stErr (Sp.chk R) (pl L) st = if t ≤ st ∧ st ≤ 1099511627776 then 0 else 1 := by unfold Sp.stErr Sp.chk; rw [hi, ht]; rfl
    obtain ⟨r, hr⟩ : ∃ r, Sp.stErr (Sp.chk R) (pl L) st = r := ⟨_, rfl⟩
    have HE : Hid (r = if t ≤ st ∧ st ≤ 1099511627776 then 0 else 1) := by rw [← hr]; exact hE
    rw [hr]
    clear hE hr hi ht
    go_enter Tryz.func48, Tryz.ntmps48
    go_wp2_with fail
    refine HC.out.mono ?_
    rintro e w1 ⟨rfl, hb1⟩
    have HB1 : Hid (Below w.heap.size w w1) := hb1
    clear hb1
    go_wp2_with fail
    refine (rstamp_any _ L _ (HV.out.up HB1.out)).mono ?_
    rintro e w2 ⟨rfl, hb2⟩
    rw [HT.out]
    have HB2 : Hid (Below w.heap.size w w2) := HB1.out.trans (hb2.mono HB1.out.size)
    clear hb2
    by_cases h1 : st < t
    · have H : Hid (r = 1) := by show r = 1; rw [HE.out, if_neg (by omega)]
      go_wp2
      go_ret
      rw [H.out]
      exact ⟨rfl, HB2.out⟩
    · by_cases h2 : 1099511627776 < st
      · have H : Hid (r = 1) := by show r = 1; rw [HE.out, if_neg (by omega)]
        go_wp2
        go_ret
        rw [H.out]
        exact ⟨rfl, HB2.out⟩
      · have H : Hid (r = 0) := by show r = 0; rw [HE.out, if_pos (by omega)]
        go_wp2
        go_ret
        rw [H.out]
        exact ⟨rfl, HB2.out⟩
end Go.Proofs.YtacghcoikekfeaaGreat
