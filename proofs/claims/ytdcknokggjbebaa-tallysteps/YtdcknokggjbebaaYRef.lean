/-
  The document's tally: New, Has, Forget.
-/
import Derived.Test.YtdcknokggjbebaaYOrd
namespace Go.Proofs.Ytdcknokggjbebaa
open Go.ChangeShapes Go.WideShapes Go.ChangeAt Go.RowKit Go.Deep
theorem infoR : (Try.prog.info? 39).map (fun i => (i.zero, i.size, i.bytes)) = some (some (.agg #[.int .i64 0, .int .i64 0, .int .i64 0]), 3, 24) := by kernel_rfl
theorem Row.base {α : Type} {E : Enc α} {w : World} {B B' : Nat} {e : TypeId} {v : Value} {ls : List α} (h : Row E w B e v ls) (hb : B' ≤ B) : Row E w B' e v ls := by
  rcases h with h | ⟨g, cap, cur, h1, h2, h3⟩
  · exact .inl h
  · exact .inr ⟨g, cap, cur, h1, Nat.le_trans hb h2, h3⟩
/-- The document's tally at block s: m nodes, the bids L in a row from block B on. -/
structure RA (w : World) (B s : Nat) (m : Int) (L : List Bd) : Prop where
  out : ∃ p n c, w.heap[s]? = some (.cells #[.int .i64 m, .slice p n c] 45) ∧ Row EB w B 39 (.slice p n c) L
  up : B ≤ w.heap.size
  lo : s < B
theorem RA.lt {w : World} {B s : Nat} {m : Int} {L : List Bd} (h : RA w B s m L) : s < w.heap.size := Nat.lt_of_lt_of_le h.lo h.up
theorem RA.still {w w' : World} {B s : Nat} {m : Int} {L : List Bd} (h : RA w B s m L) (hg : w.grownBy w' none) : RA w' B s m L := by
  obtain ⟨p, n, c, h1, h2⟩ := h.out
  exact ⟨⟨p, n, c, (hg.block s h.lt (by simp)).trans h1, h2.still hg⟩, Nat.le_trans h.up hg.size, h.lo⟩
theorem RA.up' {w w' : World} {B s : Nat} {m : Int} {L : List Bd} (h : RA w B s m L) (hb : Below w.heap.size w w') : RA w' B s m L := h.still (grown_of_below hb none)
/-- What turns a map leaves it. -/
theorem RA.map {w w' : World} {B s bm : Nat} {m m' : Int} {L L' : List Bd} (h : RA w B s m L) (hm : MA w bm m' L') (hg : w.grownBy w' (some bm)) : RA w' B s m L := by
  obtain ⟨p, n, c, h1, h2⟩ := h.out
  have hne : s ≠ bm := hm.no_cell (p := ⟨s, 0, none⟩) (v := .int .i64 m) (by simp [World.cell?, h1])
  exact ⟨⟨p, n, c, (hg.block s h.lt (fun e => hne (Option.some.inj e))).trans h1, h2.kept hg (h2.nomap hm)⟩, Nat.le_trans h.up hg.size, h.lo⟩
theorem ra_cells {w : World} {s : Nat} {m : Int} {v : Value} (h : w.heap[s]? = some (.cells #[.int .i64 m, v] 45)) : (w.cell? ⟨s, 0, none⟩ = some (.int .i64 m) ∧ w.cell? ⟨s, 1, none⟩ = some v) ∧ ∀ j, w.frozen? ⟨s, j, none⟩ = false := by
  refine ⟨⟨?_, ?_⟩, fun j => ?_⟩ <;> simp [World.cell?, World.frozen?, h]
theorem ra_set {w : World} {s : Nat} {m : Int} {v u : Value} (h : w.heap[s]? = some (.cells #[.int .i64 m, v] 45)) : (w.setCell ⟨s, 1, none⟩ u).heap[s]? = some (.cells #[.int .i64 m, u] 45) := by
  rw [setCell_eq_setRow w s 1 _ _ _ _ h, setRow_heap w s _ _ _ _ h]
  rfl
/-- The list is set anew. -/
theorem RA.set {w w' : World} {B s : Nat} {m : Int} {L L' : List Bd} {p : Option Addr} {n c : Nat} (h : RA w B s m L) (hb : Below w.heap.size w w') (hr : Row EB w' w.heap.size 39 (.slice p n c) L') : RA (w'.setCell ⟨s, 1, none⟩ (.slice p n c)) B s m L' ∧ w.grownBy (w'.setCell ⟨s, 1, none⟩ (.slice p n c)) (some s) := by
  obtain ⟨p0, n0, c0, h1, -⟩ := h.out
  have h2 : w'.heap[s]? = some (.cells #[.int .i64 m, .slice p0 n0 c0] 45) := (hb.block s h.lt).trans h1
  have hg := grown_set w' s 1 (.slice p n c)
  refine ⟨⟨⟨p, n, c, ra_set h2, ?_⟩, Nat.le_trans (Nat.le_trans h.up hb.size) hg.size, h.lo⟩, grown_trans (grown_of_below hb _) hg⟩
  refine (hr.kept hg ?_).base h.up
  rcases hr with ⟨h3, _⟩ | ⟨g, cap, cur, h3, h4, _⟩
  · rw [h3]; exact .inl rfl
  · right
    rw [h3]
    simp [Value.ownBlock]
    have := h.lt
    omega
theorem rnew_no {n : Int} (w : World) (h : Pn.No n) : Calls Try.prog 8 #[.int .i64 n] w fun e w' => e = .returned (.tuple #[.pointer none, .int .i64 1]) ∧ w' = w := by
  have H : Hid (Pn.No n) := h
  clear h
  go_enter Try.func8, Try.ntmps8
  go_wp2_with fail
  refine (refFaults_no _ H.out).mono ?_
  rintro e w' ⟨rfl, rfl⟩
  go_wp2
  go_ret2
  exact ⟨rfl, rfl⟩
theorem rnew_yes {n f : Int} (w : World) (h : Pn.Is n f) : Calls Try.prog 8 #[.int .i64 n] w fun e w' => e = .returned (.tuple #[.pointer (some ⟨w.heap.size, 0, none⟩), .int .i64 0]) ∧ w' = w.alloc (.cells #[.int .i64 n, .slice none 0 0] 45) := by
  have H : Hid (Pn.Is n f) := h
  have hf : ¬ f < 0 := by rcases h with ⟨_, rfl⟩ | ⟨_, rfl⟩ | ⟨_, rfl⟩ | ⟨_, rfl⟩ <;> decide
  clear h
  go_enter Try.func8, Try.ntmps8
  go_wp2_with fail
  refine (refFaults_yes _ H.out).mono ?_
  rintro e w' ⟨rfl, rfl⟩
  go_wp2
  go_ret2
  exact ⟨rfl, rfl⟩
theorem ra_new (w : World) (m : Int) : RA (w.alloc (.cells #[.int .i64 m, .slice none 0 0] 45)) (w.heap.size + 1) w.heap.size m [] :=
  ⟨⟨none, 0, 0, heap_alloc_new _ _, Row.nil _ _ _ _⟩, by simp, by omega⟩
set_option maxRecDepth 100000 in
set_option maxHeartbeats 4000000 in
theorem rhas_any {B s : Nat} {m : Int} {L : List Bd} (c : Int) (w : World) (h : RA w B s m L) (hl : L.length ≤ 7) : Calls Try.prog 27 #[.pointer (some ⟨s, 0, none⟩), .int .i64 c] w fun e w' => e = .returned (.bool (Ty.has L c)) ∧ Below w.heap.size w w' := by
  obtain ⟨p, n, cap, hs, hr⟩ := h.out
  obtain ⟨⟨c0, c1⟩, -⟩ := ra_cells hs
  obtain ⟨ao, cap', hv, -, hx⟩ := hr.at.wide.open
  simp only [Value.slice.injEq] at hv
  obtain ⟨rfl, hn, rfl⟩ := hv
  have HN : Hid (n = L.length) := hn
  have hn7 : n ≤ 7 := by rw [hn]; exact hl
  have HX : Hid (OverB w p L) := hx
  obtain ⟨ans, hans⟩ : ∃ ans, Ty.has L c = ans := ⟨_, rfl⟩
  have HANS : Hid (Ty.has L c = ans) := hans
  rw [hans]
  clear hs hr hx hn h hans
  go_enter Try.func27, Try.ntmps27
  go_wp2
  go_loopw [12] (fun i wr => ∃ k : Nat, k ≤ n ∧ i = .int .i64 k ∧ Hid (∀ x ∈ L.take k, x.1 ≠ c) ∧ Hid (Below w.heap.size w wr)) (fun i _ => n - (intOf i).toNat)
  case atStart => exact ⟨0, Nat.zero_le _, rfl, (fun x hx => by simp at hx), Below.refl _ _⟩
  case round =>
    obtain ⟨k, hk, rfl, HP, HB⟩ := hrel
    have hsz := HB.out.size
    by_cases hlt : k < n
    · obtain ⟨x, hxk⟩ : ∃ x, L[k]? = some x := ⟨_, List.getElem?_eq_getElem (by rw [← HN.out]; exact hlt)⟩
      obtain ⟨b, off, rfl, -, hB, hc⟩ := HX.out k x hxk
      obtain ⟨d0, d1, d2⟩ := bid_cells HB.out hB hc
      have hlt' : (k : Int) < (n : Int) := by omega
      have HB2 : Hid (Below w.heap.size w (wr.alloc (BR x))) := HB.out.alloc hsz _
      have HXK : Hid (L[k]? = some x) := hxk
      clear hc hxk hB
      by_cases hne : x.1 = c
      · have hne' : (x.1 == c) = true := by simp [hne]
        have HA : Hid (ans = true) := by
          show ans = true
          rw [← HANS.out]
          exact Ty.has_iff.2 ⟨x, List.mem_of_getElem? HXK.out, hne⟩
        clear hne
        go_wp2
        go_ret
        exact ⟨by rw [HA.out]; rfl, HB2.out⟩
      · have hne' : (x.1 == c) = false := by simp [hne]
        have HPN : Hid (∀ y ∈ L.take (k + 1), y.1 ≠ c) := fun y hy => by
          rw [Ty.take_at HXK.out] at hy
          rcases List.mem_append.1 hy with hy | hy
          · exact HP.out y hy
          · rw [List.mem_singleton.1 hy]; exact hne
        clear hne
        go_wp2
        go_roundw
        case rel => exact ⟨k + 1, by omega, by go_num, HPN.out, HB2.out⟩
        case measure => simp [intOf]; omega
    · obtain rfl : k = n := by omega
      have HA : Hid (ans = false) := by
        show ans = false
        rw [← HANS.out]
        refine Ty.has_no.2 fun x hx => HP.out x ?_
        rw [HN.out, List.take_length]
        exact hx
      go_wp2
      go_ret
      exact ⟨by rw [HA.out]; rfl, HB.out⟩
theorem Ty.filter_at (p : Bd → Bool) {l : List Bd} {k : Nat} {x : Bd} (h : l[k]? = some x) : (l.take (k + 1)).filter p = (l.take k).filter p ++ (if p x then [x] else []) := by
  rw [Ty.take_at h, List.filter_append]
  congr 1
  cases hp : p x <;> simp [hp]
theorem Ty.filter_le (p : Bd → Bool) (l : List Bd) (k : Nat) : ((l.take k).filter p).length ≤ k := Nat.le_trans (List.length_filter_le _ _) (by rw [List.length_take]; omega)
set_option maxRecDepth 100000 in
set_option maxHeartbeats 8000000 in
theorem rforget_yes {B s : Nat} {m : Int} {L : List Bd} (c : Int) (w : World) (h : RA w B s m L) (hl : L.length ≤ 7) (hc : 0 ≤ c ∧ c < m) : Calls Try.prog 14 #[.pointer (some ⟨s, 0, none⟩), .int .i64 c] w fun e w' => e = .returned (.tuple #[.bool (Ty.has L c), .int .i64 0]) ∧ RA w' B s m (Ty.del L c) ∧ w.grownBy w' (some s) := by
  have H : Hid (RA w B s m L) := h
  have HL : Hid (L.length ≤ 7) := hl
  obtain ⟨p, n, cap, hs, hr⟩ := h.out
  have HS : Hid (w.heap[s]? = some (.cells #[.int .i64 m, .slice p n cap] 45)) := hs
  obtain ⟨⟨c0, c1⟩, -⟩ := ra_cells hs
  obtain ⟨ao, cap', hv, -, hx⟩ := hr.at.wide.open
  simp only [Value.slice.injEq] at hv
  obtain ⟨rfl, hn, rfl⟩ := hv
  have HN : Hid (n = L.length) := hn
  have hn7 : n ≤ 7 := by rw [hn]; exact hl
  have HX : Hid (OverB w p L) := hx
  obtain ⟨i0, hi, hz0, hz1, hz2⟩ := info_parts infoR
  obtain ⟨ans, hans⟩ : ∃ ans, Ty.has L c = ans := ⟨_, rfl⟩
  have HANS : Hid (Ty.has L c = ans) := hans
  rw [hans]
  have hc0 : ¬ c < 0 := by omega
  have hc1 : ¬ m ≤ c := by omega
  clear hs hr hx hn h hans hl hc
  go_enter Try.func14, Try.ntmps14
  go_wp2_with fail
  refine (rhas_any c _ H.out HL.out).mono ?_
  rintro e w1 ⟨rfl, hb1⟩
  rw [HANS.out]
  have HB1 : Hid (Below w.heap.size w w1) := hb1
  have HS1 : Hid (w1.heap[s]? = some (.cells #[.int .i64 m, .slice p n cap] 45)) := (hb1.block s H.out.lt).trans HS.out
  obtain ⟨⟨e0, e1⟩, -⟩ := ra_cells HS1.out
  clear hb1 c0 c1
  go_wp2
  go_loopw [7, 28] (fun u i wr => ∃ (k : Nat) (pp : Option Addr) (jj q : Nat), k ≤ n ∧ i = .int .i64 k ∧ u = .slice pp jj q ∧ Hid (Row EB wr w.heap.size 39 (.slice pp jj q) ((L.take k).filter fun x => !(x.1 == c))) ∧ Hid (Below w.heap.size w wr)) (fun _ i _ => n - (intOf i).toNat)
  case atStart => exact ⟨0, none, 0, 0, Nat.zero_le _, rfl, rfl, Row.nil _ _ _ _, HB1.out⟩
  case round =>
    obtain ⟨k, pp, jj, q, hk, rfl, rfl, HR, HB⟩ := hrel
    have hsz := HB.out.size
    by_cases hlt : k < n
    · obtain ⟨x, hxk⟩ : ∃ x, L[k]? = some x := ⟨_, List.getElem?_eq_getElem (by rw [← HN.out]; exact hlt)⟩
      obtain ⟨b, off, rfl, -, hB, hc⟩ := HX.out k x hxk
      obtain ⟨d0, d1, d2⟩ := bid_cells HB.out hB hc
      have hlt' : (k : Int) < (n : Int) := by omega
      have HFA : Hid (((L.take (k + 1)).filter fun x => !(x.1 == c)) = ((L.take k).filter fun x => !(x.1 == c)) ++ (if (!(x.1 == c)) = true then [x] else [])) := Ty.filter_at (fun x => !(x.1 == c)) hxk
      clear hc hxk hB
      by_cases hne : x.1 = c
      · have hne' : (x.1 != c) = false := by simp [hne]
        have HE : Hid (((L.take (k + 1)).filter fun x => !(x.1 == c)) = ((L.take k).filter fun x => !(x.1 == c))) := by show _ = _; rw [HFA.out]; simp [hne]
        have HR2 : Hid (Row EB (wr.alloc (BR x)) w.heap.size 39 (.slice pp jj q) ((L.take (k + 1)).filter fun x => !(x.1 == c))) := by rw [HE.out]; exact HR.out.up ((Below.refl _ _).alloc (Nat.le_refl _) _)
        have HB2 : Hid (Below w.heap.size w (wr.alloc (BR x))) := HB.out.alloc hsz _
        clear hne
        go_wp2
        go_roundw
        case rel => exact ⟨k + 1, pp, jj, q, by omega, by go_num, rfl, HR2.out, HB2.out⟩
        case measure => simp [intOf]; omega
      · have hne' : (x.1 != c) = true := by simp [hne]
        have HE : Hid (((L.take (k + 1)).filter fun x => !(x.1 == c)) = ((L.take k).filter fun x => !(x.1 == c)) ++ [x]) := by show _ = _; rw [HFA.out]; simp [hne]
        have HUP : Hid (Below wr.heap.size wr ((wr.alloc (BR x)).alloc (BR x))) := ((Below.refl _ _).alloc (Nat.le_refl _) _).alloc (by simp) _
        have HR2 : Hid (Row EB ((wr.alloc (BR x)).alloc (BR x)) w.heap.size 39 (.slice pp jj q) ((L.take k).filter fun x => !(x.1 == c))) := HR.out.up HUP.out
        have HB2 : Hid (Below w.heap.size w ((wr.alloc (BR x)).alloc (BR x))) := (HB.out.alloc hsz _).alloc (by simp; omega) _
        have HO : Hid (AtW EB ((wr.alloc (BR x)).alloc (BR x)) (.slice (some ⟨wr.heap.size + 1, 0, none⟩) 1 1) [x]) := by
          have h2 := heap_alloc_new (wr.alloc (BR x)) (BR x)
          rw [show (wr.alloc (BR x)).heap.size = wr.heap.size + 1 by simp] at h2
          exact at_oneB h2
        have HLEN : Hid (((L.take k).filter fun x => !(x.1 == c)).length ≤ k) := Ty.filter_le _ L k
        clear hne
        go_wp2_with (at_builtin; refine wpList_row _ rfl _ _ 43 rfl EB (fun _ => True) w.heap.size 39 i0 _ 24 Try.underlying43 hi hz0 hz1 hz2 rfl _ ((L.take k).filter fun x => !(x.1 == c)) rfl HR2.out _ [x] rfl HO.out (by have := HLEN.out; unfold maxLen; simp only [List.length_cons, List.length_nil]; omega) (by have := HLEN.out; simp only [List.length_cons, List.length_nil]; omega) (by simp; omega) ?_; intro v7 w7 hrow7 hg7 hloc7)
        have HEND : Hid (Row EB w7 w.heap.size 39 v7 ((L.take (k + 1)).filter fun x => !(x.1 == c)) ∧ Below w.heap.size w w7) := ⟨by rw [HE.out]; exact hrow7, HB2.out.grown hg7 (by simp; omega) (fun k hk => (HR2.out.lt k hk).1)⟩
        clear hrow7 hg7 hloc7
        obtain ⟨p7, n7, c7, rfl⟩ := HEND.out.1.slice3
        go_wp2
        go_roundw
        case rel => exact ⟨k + 1, p7, n7, c7, by omega, by go_num, rfl, HEND.out.1, HEND.out.2⟩
        case measure => simp [intOf]; omega
    · obtain rfl : k = n := by omega
      have HE : Hid (((L.take k).filter fun x => !(x.1 == c)) = Ty.del L c) := by rw [HN.out, List.take_length]; rfl
      have HSK : Hid (wr.heap[s]? = some (.cells #[.int .i64 m, .slice p k cap] 45)) := (HB.out.block s H.out.lt).trans HS.out
      obtain ⟨⟨f0, f1⟩, hfz⟩ := ra_cells HSK.out
      have HEND : Hid (RA (wr.setCell ⟨s, 1, none⟩ (.slice pp jj q)) B s m (Ty.del L c) ∧ w.grownBy (wr.setCell ⟨s, 1, none⟩ (.slice pp jj q)) (some s)) := H.out.set HB.out (by rw [← HE.out]; exact HR.out)
      go_wp2
      go_ret2
      exact ⟨rfl, HEND.out.1, HEND.out.2⟩
theorem rforget_no {B s : Nat} {m : Int} {L : List Bd} (c : Int) (w : World) (h : RA w B s m L) (hc : ¬ (0 ≤ c ∧ c < m)) : Calls Try.prog 14 #[.pointer (some ⟨s, 0, none⟩), .int .i64 c] w fun e w' => e = .returned (.tuple #[.bool false, .int .i64 1]) ∧ w' = w := by
  obtain ⟨p, n, cap, hs, hr⟩ := h.out
  obtain ⟨⟨c0, c1⟩, -⟩ := ra_cells hs
  clear h hs hr
  by_cases h0 : c < 0
  · clear hc
    go_enter Try.func14, Try.ntmps14
    go_wp2
    go_ret2
    exact ⟨rfl, rfl⟩
  · have h1 : m ≤ c := by omega
    clear hc
    go_enter Try.func14, Try.ntmps14
    go_wp2
    go_ret2
    exact ⟨rfl, rfl⟩
end Go.Proofs.Ytdcknokggjbebaa
