/-
  space.refuse, Look, findToChange, refuseMake, refuseLink, over what Check answers.
-/
import Derived.Test.YtacghcoikekfeaaGreatSp7
namespace Go.Proofs.YtacghcoikekfeaaGreat
open Go.ChangeShapes Go.WideShapes Go.ChangeAt Go.RowKit Go.Deep It
set_option maxRecDepth 100000
/-- What Check answers, as it is proved elsewhere. -/
def ChkSaid (C : List Ino → Int) : Prop := ∀ (S : Nat → Prop) (v : Value) (L : List Rw) (w : World), TabAt S w v L → Sp.okN L → Calls Tryz.prog 10 #[v] w fun e w' => e = .returned (.int .i64 (C (pl L))) ∧ Below w.heap.size w w'
namespace Sp
/-- The greatest stamp. -/
def top (L : List Ino) : Int := L.foldl (fun m x => max m x.stamp) 0
theorem top_step {L : List Rw} {k : Nat} {x : Rw} (h : L[k]? = some x) : top (pl (L.take (k + 1))) = max (top (pl (L.take k))) x.i.stamp := by
  rw [List.take_add_one, h]
  simp [top, pl]
def stErr (C : List Ino → Int) (L : List Ino) (st : Int) : Int := if C L = 0 then (if top L ≤ st ∧ st ≤ 1099511627776 then 0 else 1) else C L
end Sp
set_option maxHeartbeats 4000000 in
theorem srefuse_any {C : List Ino → Int} (hC : ChkSaid C) {S : Nat → Prop} (v : Value) (L : List Rw) (st : Int) (w : World) (hv : TabAt S w v L) (hok : Sp.okN L) :
    Calls Tryz.prog 80 #[v, .int .i64 st] w fun e w' => e = .returned (.int .i64 (Sp.stErr C (pl L) st)) ∧ Below w.heap.size w w' := by
  have HC : Hid (Calls Tryz.prog 10 #[v] w fun e w' => e = .returned (.int .i64 (C (pl L))) ∧ Below w.heap.size w w') := hC S v L w hv hok
  obtain ⟨ao, cap, rfl, hm, hx⟩ := hv.open
  clear hv hC hok
  unfold maxLen at hm
  obtain ⟨n, hn⟩ : ∃ n, L.length = n := ⟨_, rfl⟩
  rw [hn] at hm HC ⊢
  have HN : Hid (L.length = n) := hn
  have HX : Hid (∀ i x, L[i]? = some x → (∃ b off, ao = some ⟨b, off, none⟩ ∧ b < w.heap.size ∧ eight w b (off + i * 8) x) ∧ Good S w x) := hx
  obtain ⟨ce, hce⟩ : ∃ ce, C (pl L) = ce := ⟨_, rfl⟩
  rw [hce] at HC
  by_cases hz : ce = 0
  · subst hz
    have HR : Hid (Sp.stErr C (pl L) st = if Sp.top (pl L) ≤ st ∧ st ≤ 1099511627776 then 0 else 1) := by show Sp.stErr C (pl L) st = _; unfold Sp.stErr; rw [if_pos hce]
    obtain ⟨r, hr⟩ : ∃ r, Sp.stErr C (pl L) st = r := ⟨_, rfl⟩
    rw [hr] at HR ⊢
    clear hr hce hn hx
    go_enter Tryz.func80, Tryz.ntmps80
    go_wp2_with fail
    refine HC.out.mono ?_
    rintro e w1 ⟨rfl, hb1⟩
    have HB1 : Hid (Below w.heap.size w w1) := hb1
    clear hb1
    go_wp2
    go_loopw [6, 16] (fun g i wr => ∃ k : Nat, k ≤ n ∧ i = .int .i64 k ∧ g = .int .i64 (Sp.top (pl (L.take k))) ∧ Hid (Below w.heap.size w wr)) (fun _ i _ => n - (intOf i).toNat)
    case atStart => exact ⟨0, Nat.zero_le _, rfl, rfl, HB1.out⟩
    case round =>
      obtain ⟨k, hk, rfl, rfl, HB⟩ := hrel
      have hsz := HB.out.size
      obtain ⟨g, hg⟩ : ∃ g, Sp.top (pl (L.take k)) = g := ⟨_, rfl⟩
      have HGG : Hid (Sp.top (pl (L.take k)) = g) := hg
      rw [hg]
      clear hg
      by_cases hlt : k < n
      · obtain ⟨x, hxk⟩ : ∃ x, L[k]? = some x := ⟨_, List.getElem?_eq_getElem (by rw [HN.out]; exact hlt)⟩
        have HXK : Hid (L[k]? = some x) := hxk
        obtain ⟨⟨b, off, rfl, hB, hc⟩, -⟩ := HX.out k x hxk
        obtain ⟨c0, c1, c2, c3, c4, c5, c6, c7⟩ := hc.below HB.out hB
        have hlt' : (k : Int) < (n : Int) := by omega
        clear hc hxk
        go_wp2
        refine ⟨⟨k + 1, by omega, by go_num, ?_, HB.out.alloc hsz _⟩, ?_⟩
        · rw [Sp.top_step HXK.out, HGG.out]
          congr 1
          split <;> omega
        · simp [intOf]
          omega
      · obtain rfl : k = n := by omega
        have HT : Hid (Sp.top (pl L) = g) := by
          show Sp.top (pl L) = g
          rw [← HGG.out, List.take_of_length_le (by rw [HN.out]; exact Nat.le_refl _)]
        by_cases hw : g ≤ st ∧ st ≤ 1099511627776
        · have H : Hid (r = 0) := by show r = 0; rw [HR.out, HT.out, if_pos hw]
          have HW : Hid (decide (g ≤ st ∧ st ≤ 1099511627776) = true) := decide_eq_true hw
          clear hw hlt
          go_wp2_with fail
          refine (swithin_any _ _ _ _).mono ?_
          rintro e w2 ⟨rfl, hw2⟩
          subst hw2
          rw [HW.out]
          go_wp2
          go_ret
          rw [H.out]
          exact ⟨rfl, HB.out⟩
        · have H : Hid (r = 1) := by show r = 1; rw [HR.out, HT.out, if_neg hw]
          have HW : Hid (decide (g ≤ st ∧ st ≤ 1099511627776) = false) := decide_eq_false hw
          clear hw hlt
          go_wp2_with fail
          refine (swithin_any _ _ _ _).mono ?_
          rintro e w2 ⟨rfl, hw2⟩
          subst hw2
          rw [HW.out]
          go_wp2
          go_ret
          rw [H.out]
          exact ⟨rfl, HB.out⟩
  · have HR : Hid (Sp.stErr C (pl L) st = ce) := by show Sp.stErr C (pl L) st = _; unfold Sp.stErr; rw [if_neg (by rw [hce]; exact hz), hce]
    have hz' : (ce != 0) = true := by simpa using hz
    rw [HR.out]
    clear hce hz hn hx
    go_enter Tryz.func80, Tryz.ntmps80
    go_wp2_with fail
    refine HC.out.mono ?_
    rintro e w1 ⟨rfl, hb1⟩
    have HB1 : Hid (Below w.heap.size w w1) := hb1
    clear hb1
    go_wp2
    go_ret
    exact ⟨rfl, HB1.out⟩
end Go.Proofs.YtacghcoikekfeaaGreat
