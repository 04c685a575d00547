/-
  The statements' own Entries and Inodes say yes of lists that are one list.
-/
import Derived.Test.YtacghcoikekfeaaGreatRefBase
import Derived.Test.YtacghcoikekfeaaGreatTab
namespace Go.Proofs.YtacghcoikekfeaaGreat
open Go.ChangeShapes Go.WideShapes Go.ChangeAt Go.RowKit Go.Deep It
set_option maxRecDepth 100000

set_option maxHeartbeats 1000000 in
theorem entries_same {S T : Nat → Prop} (u v : Value) (l : List (ByteArray × Int × Int × Int)) (w : World) (hu : At EE S w u l) (hv : At EE T w v l) :
    Calls Tryz.prog 53 #[u, v] w fun e w' => e = .returned (.bool true) ∧ Below w.heap.size w w' := by
  obtain ⟨ao, cap, rfl, hm, hx⟩ := hu.open
  obtain ⟨bo, cap', rfl, _, hy⟩ := hv.open
  clear hu hv
  unfold maxLen at hm
  obtain ⟨n, hn⟩ : ∃ n, l.length = n := ⟨_, rfl⟩
  rw [hn] at hm ⊢
  have HN : Hid (l.length = n) := hn
  have HX : Hid (∀ i x, l[i]? = some x → ∃ b off, ao = some ⟨b, off, none⟩ ∧ S b ∧ b < w.heap.size ∧ ∀ k u, (EE.cells x)[k]? = some u → w.cell? ⟨b, off + (i * 4 + k), none⟩ = some u) := hx
  have HY : Hid (∀ i x, l[i]? = some x → ∃ b off, bo = some ⟨b, off, none⟩ ∧ T b ∧ b < w.heap.size ∧ ∀ k u, (EE.cells x)[k]? = some u → w.cell? ⟨b, off + (i * 4 + k), none⟩ = some u) := hy
  clear hn hx hy
  go_enter Tryz.func53, Tryz.ntmps53
  go_wp2
  go_loopw [8] (fun i wr => ∃ k : Nat, k ≤ n ∧ i = .int .i64 k ∧ Below w.heap.size w wr) (fun i _ => n - (intOf i).toNat)
  case atStart => exact ⟨0, Nat.zero_le _, rfl, Below.refl _ _⟩
  case round =>
    obtain ⟨k, hk, rfl, hbl⟩ := hrel
    by_cases hlt : k < n
    · obtain ⟨y, hyk⟩ : ∃ y, l[k]? = some y := ⟨_, List.getElem?_eq_getElem (by rw [HN.out]; exact hlt)⟩
      obtain ⟨b, off, rfl, _, hB, hc⟩ := HX.out k y hyk
      obtain ⟨b', off', rfl, _, hB', hc'⟩ := HY.out k y hyk
      have c0 := hc 0 _ rfl
      have c1 := hc 1 _ rfl
      have c2 := hc 2 _ rfl
      have c3 := hc 3 _ rfl
      have d0 := hc' 0 _ rfl
      have d1 := hc' 1 _ rfl
      have d2 := hc' 2 _ rfl
      have d3 := hc' 3 _ rfl
      rw [← hbl.cell (p := ⟨b, off + (k * 4 + 0), none⟩) hB, Nat.add_zero] at c0
      rw [← hbl.cell (p := ⟨b, off + (k * 4 + 1), none⟩) hB, ← Nat.add_assoc] at c1
      rw [← hbl.cell (p := ⟨b, off + (k * 4 + 2), none⟩) hB, ← Nat.add_assoc] at c2
      rw [← hbl.cell (p := ⟨b, off + (k * 4 + 3), none⟩) hB, ← Nat.add_assoc] at c3
      rw [← hbl.cell (p := ⟨b', off' + (k * 4 + 0), none⟩) hB', Nat.add_zero] at d0
      rw [← hbl.cell (p := ⟨b', off' + (k * 4 + 1), none⟩) hB', ← Nat.add_assoc] at d1
      rw [← hbl.cell (p := ⟨b', off' + (k * 4 + 2), none⟩) hB', ← Nat.add_assoc] at d2
      rw [← hbl.cell (p := ⟨b', off' + (k * 4 + 3), none⟩) hB', ← Nat.add_assoc] at d3
      obtain ⟨y0, y1, y2, y3⟩ := y
      simp only at c0 c1 c2 c3 d0 d1 d2 d3
      have hlt' : (k : Int) < (n : Int) := by omega
      have hge : decide ((n : Int) ≤ (k : Int)) = false := by simp; omega
      have hge2 : decide (n ≤ k) = false := by simp; omega
      clear hyk hc hc'
      go_wp2
      go_quiet (fail)
      go_wp2
      go_roundw
      case rel => exact ⟨k + 1, by omega, by go_num, Go.below_drewN hbl _⟩
      case measure => simp [intOf]; omega
    · obtain rfl : k = n := by omega
      go_wp2
      go_ret
      exact ⟨by simp, hbl⟩

theorem eight_grw {w : World} {b o : Nat} {x : Rw} (h : eight w b o x) (p : Grw w) : eight p.out b o x := h.below p.below (World.block_lt_of_cell? _ _ h.1)
set_option maxHeartbeats 4000000 in
set_option maxRecDepth 100000 in
theorem inodes_same {S T : Nat → Prop} (u v : Value) (L M : List Rw) (w : World) (hu : TabAt S w u L) (hv : TabAt T w v M) (hp : pl L = pl M) :
    Calls Tryz.prog 19 #[u, v] w fun e w' => e = .returned (.bool true) ∧ Below w.heap.size w w' := by
  obtain ⟨ao, cap, rfl, hm, hx⟩ := hu.open
  obtain ⟨bo, cap', rfl, _, hy⟩ := hv.open
  clear hu hv
  unfold maxLen at hm
  have hlen : M.length = L.length := by have := congrArg List.length hp; simpa [pl] using this.symm
  rw [hlen]
  obtain ⟨n, hn⟩ : ∃ n, L.length = n := ⟨_, rfl⟩
  rw [hn] at hm hlen ⊢
  have HN : Hid (L.length = n ∧ M.length = n) := ⟨hn, hlen⟩
  have HP : Hid (pl L = pl M) := hp
  have HX : Hid (∀ i x, L[i]? = some x → (∃ b off, ao = some ⟨b, off, none⟩ ∧ b < w.heap.size ∧ eight w b (off + i * 8) x) ∧ Good S w x) := hx
  have HY : Hid (∀ i x, M[i]? = some x → (∃ b off, bo = some ⟨b, off, none⟩ ∧ b < w.heap.size ∧ eight w b (off + i * 8) x) ∧ Good T w x) := hy
  clear hn hlen hx hy hp
  go_enter Tryz.func19, Tryz.ntmps19
  go_wp2
  go_loopw [8] (fun i wr => ∃ k : Nat, k ≤ n ∧ i = .int .i64 k ∧ Below w.heap.size w wr) (fun i _ => n - (intOf i).toNat)
  case atStart => exact ⟨0, Nat.zero_le _, rfl, Below.refl _ _⟩
  case round =>
    obtain ⟨k, hk, rfl, hbl⟩ := hrel
    by_cases hlt : k < n
    · obtain ⟨x, hxk⟩ : ∃ y, L[k]? = some y := ⟨_, List.getElem?_eq_getElem (by rw [HN.out.1]; exact hlt)⟩
      obtain ⟨y, hyk⟩ : ∃ y, M[k]? = some y := ⟨_, List.getElem?_eq_getElem (by rw [HN.out.2]; exact hlt)⟩
      have hxy : y.i = x.i := by
        have := congrArg (fun l => l[k]?) HP.out
        simp only [pl, List.getElem?_map, hxk, hyk, Option.map_some, Option.some.injEq] at this
        exact this.symm
      obtain ⟨⟨b, off, rfl, hB, hc⟩, hgx⟩ := HX.out k x hxk
      obtain ⟨⟨b', off', rfl, hB', hc'⟩, hgy⟩ := HY.out k y hyk
      have HR : Hid (∀ W, wr.grownBy W none → Calls Tryz.prog 52 #[.slice x.rp x.rn x.rc, .slice y.rp y.rn y.rc] W fun e w' => e = .returned (.bool true) ∧ Below W.heap.size W w') := fun W hW => by
        have h1 := ((hgx.up hbl).up (below_none hW (Nat.le_refl _))).1.fields
        have h2 := ((hgy.up hbl).up (below_none hW (Nat.le_refl _))).1.fields
        rw [hxy] at h2
        exact runs_same _ _ _ W h1 h2
      have HE : Hid (∀ W, wr.grownBy W none → Calls Tryz.prog 53 #[.slice x.ep x.en x.ec, .slice y.ep y.en y.ec] W fun e w' => e = .returned (.bool true) ∧ Below W.heap.size W w') := fun W hW => by
        have h1 := ((hgx.up hbl).up (below_none hW (Nat.le_refl _))).2.1
        have h2 := ((hgy.up hbl).up (below_none hW (Nat.le_refl _))).2.1
        rw [hxy] at h2
        exact entries_same _ _ _ W h1 h2
      have hcx := eight_grw (hc.below hbl hB)
      have hcy := eight_grw (hc'.below hbl hB')
      unfold eight at hcx hcy
      rw [hxy] at hcy
      have HB : Hid (Below w.heap.size w wr) := hbl
      obtain ⟨⟨g, kk, l, s, t, rs, es, nx⟩, rp, rn, rc, ep, en, ec⟩ := x
      obtain ⟨yi, yrp, yrn, yrc, yep, yen, yec⟩ := y
      simp only at hcx hcy HR HE
      have a0 := fun p => (hcx p).1
      have a1 := fun p => (hcx p).2.1
      have a2 := fun p => (hcx p).2.2.1
      have a3 := fun p => (hcx p).2.2.2.1
      have a4 := fun p => (hcx p).2.2.2.2.1
      have a5 := fun p => (hcx p).2.2.2.2.2.1
      have a6 := fun p => (hcx p).2.2.2.2.2.2.1
      have a7 := fun p => (hcx p).2.2.2.2.2.2.2
      have b0 := fun p => (hcy p).1
      have b1 := fun p => (hcy p).2.1
      have b2 := fun p => (hcy p).2.2.1
      have b3 := fun p => (hcy p).2.2.2.1
      have b4 := fun p => (hcy p).2.2.2.2.1
      have b5 := fun p => (hcy p).2.2.2.2.2.1
      have b6 := fun p => (hcy p).2.2.2.2.2.2.1
      have b7 := fun p => (hcy p).2.2.2.2.2.2.2
      have hlt' : (k : Int) < (n : Int) := by omega
      have hge : decide ((n : Int) ≤ (k : Int)) = false := by simp; omega
      have hge2 : decide (n ≤ k) = false := by simp; omega
      have hne9 : Nonempty (Grw wr) := grw_some wr
      clear hxk hyk hxy hc hc' hgx hgy hcx hcy hbl hB hB'
      go_wp2_with fail
      simp only [List.cons_append, List.nil_append, List.append_eq]
      refine wp_region_grw (by kernel_rfl) (by kernel_rfl) ?_
      repeat (go_big_quiet_step (first | (go_at_call 52; refine calls_grw (Grw.grown _) (HR.out _ (Grw.grown _))) | (go_at_call 53; refine calls_grw (Grw.grown _) (HE.out _ (Grw.grown _)))))
      refine wpQuiet_nil ?_
      rintro wq ⟨p, rfl⟩
      have HBq : Hid (Below w.heap.size w p.out) := HB.out.trans (p.below.mono HB.out.size)
      go_wp2
      go_roundw
      case rel => exact ⟨k + 1, by omega, by go_num, HBq.out⟩
      case measure => simp [intOf]; omega
    · obtain rfl : k = n := by omega
      go_wp2
      go_ret
      exact ⟨by simp, hbl⟩
end Go.Proofs.YtacghcoikekfeaaGreat
