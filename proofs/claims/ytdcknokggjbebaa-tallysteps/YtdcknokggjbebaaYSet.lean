/-
  tally.set, Nodes, Count, Enough: those that have a bid.
-/
import Derived.Test.YtdcknokggjbebaaYFun
namespace Go.Proofs.Ytdcknokggjbebaa
open Go.ChangeShapes Go.WideShapes Go.ChangeAt Go.RowKit Go.Deep
theorem or_ex {y k : Nat} (hy : y < 128) (hk : k < 7) : ∃ y' : Nat, bits .or .i64 (y : Int) (2 ^ k) = (y' : Int) ∧ y' < 128 ∧ ∀ j, j < 7 → (Pn.bit y' j = true ↔ Pn.bit y j = true ∨ j = k) := by
  obtain ⟨h1, h2, h3⟩ := Ty.or_bits ⟨y, hy⟩ ⟨k, hk⟩
  refine ⟨_, h1, h2, fun j hj => ?_⟩
  have := h3 ⟨j, hj⟩
  simp only at this
  rw [this]
  simp
theorem wrap_pow : ∀ k : Fin 7, wrap64 ((2 : Int) ^ k.1) = 2 ^ k.1 := by decide +kernel
theorem map_one {β : Type} {g : β → Nat} : ∀ {l : List β}, (l.map g).Nodup → ∀ {a b : β}, a ∈ l → b ∈ l → g a = g b → a = b
  | [], _, _, _, ha, _, _ => by cases ha
  | x :: l, hn, a, b, ha, hb, e => by
    rw [List.map_cons, List.nodup_cons] at hn
    rcases List.mem_cons.1 ha with h1 | h1
    · rcases List.mem_cons.1 hb with h2 | h2
      · rw [h1, h2]
      · exact absurd (List.mem_map.2 ⟨b, h2, by rw [← e, h1]⟩) hn.1
    · rcases List.mem_cons.1 hb with h2 | h2
      · exact absurd (List.mem_map.2 ⟨a, h1, by rw [e, h2]⟩) hn.1
      · exact map_one hn.2 h1 h2 e
def seenSet (es : Array MapEntry) (seen : Array Nat) (y : Nat) : Prop := y < 128 ∧ ∀ k : Nat, k < 7 → (Pn.bit y k = true ↔ ∃ e ∈ es.toList, seen.contains e.born = true ∧ e.key = .int .i64 k)
theorem seen_nil (es : Array MapEntry) : seenSet es #[] 0 := ⟨by decide, fun k hk => by simp [Pn.bit]⟩
theorem seen_push {es : Array MapEntry} {seen : Array Nat} {y y' k : Nat} {e : MapEntry} (h : seenSet es seen y) (hb : (es.toList.map (·.born)).Nodup) (he : e ∈ es.toList) (hk : e.key = .int .i64 k) (hy : y' < 128) (hor : ∀ j, j < 7 → (Pn.bit y' j = true ↔ Pn.bit y j = true ∨ j = k)) : seenSet es (seen.push e.born) y' := by
  refine ⟨hy, fun j hj => ?_⟩
  rw [hor j hj, h.2 j hj]
  constructor
  · rintro (⟨e', h1, h2, h3⟩ | rfl)
    · exact ⟨e', h1, by simp at h2 ⊢; exact .inl h2, h3⟩
    · exact ⟨e, he, by simp, hk⟩
  · rintro ⟨e', h1, h2, h3⟩
    simp only [Array.contains_push, Bool.or_eq_true, beq_iff_eq] at h2
    rcases h2 with h2 | h2
    · exact .inl ⟨e', h1, h2, h3⟩
    · right
      have : e' = e := map_one hb h1 he h2
      subst this
      rw [hk] at h3
      simp at h3
      omega
theorem seen_all {es : Array MapEntry} {seen : Array Nat} {y : Nat} {L M : List Bd} (h : seenSet es seen y) (hl : leftM es seen = []) (hr : es.toList.map (fun e => (e.key, e.val)) = (rows M).map (fun p => (Value.int .i64 p.1, p.2))) (hp : M.Perm L) : Ty.setOf L y := by
  refine ⟨h.1, fun k hk => ?_⟩
  rw [h.2 k hk]
  have all : ∀ e ∈ es.toList, seen.contains e.born = true := fun e he => by
    cases hc : seen.contains e.born with
    | true => rfl
    | false =>
      have : e ∈ leftM es seen := List.mem_filter.2 ⟨he, by rw [hc]; rfl⟩
      rw [hl] at this
      cases this
  constructor
  · rintro ⟨e, he, _, hk⟩
    have : (e.key, e.val) ∈ (rows M).map (fun p => (Value.int .i64 p.1, p.2)) := by rw [← hr]; exact List.mem_map.2 ⟨e, he, rfl⟩
    obtain ⟨p, hp1, hp2⟩ := List.mem_map.1 this
    unfold rows at hp1
    obtain ⟨x, hx, rfl⟩ := List.mem_map.1 hp1
    rw [Prod.mk.injEq, hk] at hp2
    refine ⟨x, hp.mem_iff.1 hx, ?_⟩
    simpa using hp2.1
  · rintro ⟨x, hx, hxk⟩
    have : (Value.int .i64 x.1, VB x) ∈ (rows M).map (fun p => (Value.int .i64 p.1, p.2)) := List.mem_map.2 ⟨(x.1, VB x), mem_rows.2 (hp.mem_iff.2 hx), rfl⟩
    rw [← hr] at this
    obtain ⟨e, he, hee⟩ := List.mem_map.1 this
    rw [Prod.mk.injEq] at hee
    exact ⟨e, he, all e he, by rw [hee.1, hxk]⟩
theorem tset_nil (w : World) : Calls Try.prog 31 #[.pointer none] w fun e w' => e = .returned (.int .i64 0) ∧ w' = w := by
  go_enter Try.func31, Try.ntmps31
  go_wp2
  go_ret
  exact ⟨rfl, rfl⟩
theorem IR.iter {w : World} {r t : Nat} {M : List (Int × Value)} {es : Array MapEntry} {seen : Array Nat} (h : IR w r t M es seen) : (match w.heap[t]? with | some (.mapIter _ _ s _) => (leftM es s).length | _ => 0) = (leftM es seen).length := by
  obtain ⟨clock, _, ht, _⟩ := h.it
  rw [ht]
set_option maxRecDepth 100000 in
set_option maxHeartbeats 4000000 in
theorem tset_any {s bm : Nat} {m f : Int} {L : List Bd} (w : World) (h : TA w s bm m f L) : Calls Try.prog 31 #[.pointer (some ⟨s, 0, none⟩)] w fun e w' => ∃ y : Nat, e = .returned (.int .i64 y) ∧ Ty.setOf L y ∧ Below w.heap.size w w' := by
  have H : Hid (TA w s bm m f L) := h
  have c1 := h.c1
  have hm7 : m ≤ 7 := by rcases h.is with ⟨rfl, _⟩ | ⟨rfl, _⟩ | ⟨rfl, _⟩ | ⟨rfl, _⟩ <;> decide
  have HF : Hid (∀ x ∈ L, Ty.Fits m x) := h.ma.fits
  obtain ⟨M, hM, hp⟩ := h.ma.map
  have HM : Hid (IM w bm (rows M)) := hM
  have HP : Hid (M.Perm L) := hp
  clear h hM hp
  go_enter Try.func31, Try.ntmps31
  go_wp2_with (first | (at_range; refine wpList_irng Try.underlying63 _ rfl _ rfl bm (rows M) rfl HM.out ?_; intro es w3 hr3 hg3) | go_in)
  obtain ⟨t, ht⟩ : ∃ t, w.heap.size = t := ⟨_, rfl⟩
  have HR3 : Hid (IR w3 bm t (rows M) es #[]) := by rw [← ht]; exact hr3
  have HB3 : Hid (Below w.heap.size w w3) := below_none hg3 (Nat.le_refl _)
  have HT : Hid (w.heap.size = t) := ht
  rw [ht]
  clear hr3 hg3 ht
  go_frame
  go_loopw [3] (fun u wr => ∃ (seen : Array Nat) (y : Nat), u = .int .i64 y ∧ Hid (IR wr bm t (rows M) es seen) ∧ Hid (seenSet es seen y) ∧ Hid (Below w.heap.size w wr)) (fun _ wr => match wr.heap[t]? with | some (.mapIter _ _ seen _) => (leftM es seen).length | _ => 0)
  case atStart => exact ⟨#[], 0, rfl, HR3.out, seen_nil _, HB3.out⟩
  case round =>
    obtain ⟨seen, y, rfl, HR, HS, HB⟩ := hrel
    have HY : Hid (y < 128) := HS.out.1
    have hsz := HB.out.size
    have HI := HR.out.iter
    rw [HI]
    clear HI
    go_wp2_with (first | (at_next; refine wpList_inxt _ rfl _ rfl bm t (rows M) es seen rfl HR.out (fun hl => ?_) (fun e p w' he hpm hk hv hr' hg' hen => ?_)) | go_in)
    · have HE : Hid (Ty.setOf L y) := seen_all HS.out hl HR.out.rows HP.out
      clear hl
      go_wp2
      go_ret
      exact ⟨y, rfl, HE.out, HB.out⟩
    · have hpm' := hpm
      unfold rows at hpm'
      obtain ⟨x, hx, hxp⟩ := List.mem_map.1 hpm'
      have hfx := (HF.out x (HP.out.mem_iff.1 hx)).1
      have HK : Hid (e.key = .int .i64 p.1) := hk
      have hp1 : p.1 = x.1 := by rw [← hxp]
      obtain ⟨k, hk7, hpk⟩ : ∃ k : Nat, k < 7 ∧ p.1 = (k : Int) := ⟨x.1.toNat, by omega, by omega⟩
      obtain ⟨y', hor, hy', hbit⟩ := or_ex HY.out hk7
      have HRN : Hid (IR w' bm t (rows M) es (seen.push e.born)) := hr'
      have HLE : Hid ((leftM es (seen.push e.born)).length < (leftM es seen).length) := leftM_less he
      have HSN : Hid (seenSet es (seen.push e.born) y') := seen_push HS.out HR.out.born (List.mem_filter.1 he).1 (by rw [hk, hpk]) hy' hbit
      have HBN : Hid (Below w.heap.size w w') := HB.out.grown hg' hsz (fun j e => by cases e; rw [HT.out]; exact Nat.le_refl _)
      obtain ⟨p1, p2⟩ := p
      simp only at hpk hen
      subst hpk
      have hw : wrap64 ((2 : Int) ^ k) = 2 ^ k := wrap_pow ⟨k, hk7⟩
      clear hpm hpm' hx hxp hfx hk hv hr' hg' he hbit HK hp1
      go_wp2
      go_roundw
      case rel => exact ⟨seen.push e.born, y', by rw [hw, hor], HRN.out, HSN.out, HBN.out⟩
      case measure =>
        have := HRN.out.iter
        rw [this]
        exact HLE.out
theorem tNodes_nil (w : World) : Calls Try.prog 19 #[.pointer none] w fun e w' => e = .returned (.slice none 0 0) ∧ w' = w := by
  have H : Hid (Pn.No 0) := show Pn.No 0 from .inl (by decide)
  go_enter Try.func19, Try.ntmps19
  go_wp2_with fail
  refine (tnodes_nil _).mono ?_
  rintro e w' ⟨rfl, rfl⟩
  go_wp2_with fail
  refine (tset_nil _).mono ?_
  rintro e w' ⟨rfl, rfl⟩
  go_wp2_with fail
  refine (nodes_no _ _ H.out).mono ?_
  rintro e w' ⟨rfl, rfl⟩
  go_wp2
  go_ret
  exact ⟨rfl, rfl⟩
theorem tNodes_any {s bm : Nat} {m f : Int} {L : List Bd} (w : World) (h : TA w s bm m f L) : Calls Try.prog 19 #[.pointer (some ⟨s, 0, none⟩)] w fun e w' => ∃ v, e = .returned v ∧ Row EI w' w.heap.size 3 v (L.map (·.1)) ∧ Below w.heap.size w w' := by
  have H : Hid (TA w s bm m f L) := h
  obtain ⟨m', hm'⟩ : ∃ m' : Nat, m = m' := ⟨m.toNat, by rcases h.is with ⟨rfl, _⟩ | ⟨rfl, _⟩ | ⟨rfl, _⟩ | ⟨rfl, _⟩ <;> decide⟩
  have hm7 : m' ≤ 7 := by rcases h.is with ⟨h1, _⟩ | ⟨h1, _⟩ | ⟨h1, _⟩ | ⟨h1, _⟩ <;> omega
  subst hm'
  clear h
  go_enter Try.func19, Try.ntmps19
  go_wp2_with fail
  refine (tnodes_any _ H.out.c0).mono ?_
  rintro e w' ⟨rfl, rfl⟩
  go_wp2_with fail
  refine (tset_any _ H.out).mono ?_
  rintro e w1 ⟨y, rfl, hy, hb1⟩
  have HN : Hid (Pn.nodes y ((m' : Int)).toNat = L.map (·.1)) := Ty.nodes_of (m := m') hm7 H.out.ma.inc H.out.ma.fits hy
  have HY : Hid (y < 2 ^ ((m' : Int)).toNat) := Ty.set_small H.out.is H.out.ma.fits hy
  have HB1 : Hid (Below w'.heap.size w' w1) := hb1
  clear hy hb1
  go_wp2_with fail
  refine (nodes_yes _ _ H.out.is HY.out).mono ?_
  rintro e w2 ⟨v, rfl, hr, hb2⟩
  rw [HN.out] at hr
  have HR : Hid (Row EI w2 w'.heap.size 3 v (L.map (·.1))) := by
    rcases hr with hr | ⟨g, cap, cur, h1, h2, h3⟩
    · exact .inl hr
    · exact .inr ⟨g, cap, cur, h1, Nat.le_trans HB1.out.size h2, h3⟩
  have HB2 : Hid (Below w'.heap.size w' w2) := HB1.out.trans (hb2.mono HB1.out.size)
  clear hr hb2
  go_wp2
  go_ret
  exact ⟨v, rfl, HR.out, HB2.out⟩
theorem tCount_nil (w : World) : Calls Try.prog 20 #[.pointer none] w fun e w' => e = .returned (.int .i64 0) ∧ w' = w := by
  go_enter Try.func20, Try.ntmps20
  go_wp2_with fail
  refine (tNodes_nil _).mono ?_
  rintro e w' ⟨rfl, rfl⟩
  go_wp2
  go_ret
  exact ⟨rfl, rfl⟩
theorem tCount_any {s bm : Nat} {m f : Int} {L : List Bd} (w : World) (h : TA w s bm m f L) : Calls Try.prog 20 #[.pointer (some ⟨s, 0, none⟩)] w fun e w' => e = .returned (.int .i64 L.length) ∧ Below w.heap.size w w' := by
  have H : Hid (TA w s bm m f L) := h
  clear h
  go_enter Try.func20, Try.ntmps20
  go_wp2_with fail
  refine (tNodes_any _ H.out).mono ?_
  rintro e w1 ⟨v, rfl, hr, hb1⟩
  obtain ⟨p, c, rfl⟩ := hr.slice
  rw [List.length_map]
  clear hr
  go_wp2
  go_ret
  exact ⟨rfl, hb1⟩
theorem tEnough_nil (w : World) : Calls Try.prog 21 #[.pointer none] w fun e w' => e = .returned (.bool false) ∧ w' = w := by
  have H : Hid (Pn.No 0) := show Pn.No 0 from .inl (by decide)
  go_enter Try.func21, Try.ntmps21
  go_wp2_with fail
  refine (tnodes_nil _).mono ?_
  rintro e w' ⟨rfl, rfl⟩
  go_wp2_with fail
  refine (tset_nil _).mono ?_
  rintro e w' ⟨rfl, rfl⟩
  go_wp2_with fail
  refine (enough_no _ _ H.out).mono ?_
  rintro e w' ⟨rfl, rfl⟩
  go_wp2
  go_ret
  exact ⟨rfl, rfl⟩
theorem tEnough_any {s bm : Nat} {m f : Int} {L : List Bd} (w : World) (h : TA w s bm m f L) : Calls Try.prog 21 #[.pointer (some ⟨s, 0, none⟩)] w fun e w' => e = .returned (.bool (decide (f < (L.length : Int)))) ∧ Below w.heap.size w w' := by
  have H : Hid (TA w s bm m f L) := h
  obtain ⟨m', hm'⟩ : ∃ m' : Nat, m = m' := ⟨m.toNat, by rcases h.is with ⟨rfl, _⟩ | ⟨rfl, _⟩ | ⟨rfl, _⟩ | ⟨rfl, _⟩ <;> decide⟩
  have hm7 : m' ≤ 7 := by rcases h.is with ⟨h1, _⟩ | ⟨h1, _⟩ | ⟨h1, _⟩ | ⟨h1, _⟩ <;> omega
  subst hm'
  clear h
  obtain ⟨ans, hans⟩ : ∃ ans, decide (f < (L.length : Int)) = ans := ⟨_, rfl⟩
  have HANS : Hid (decide (f < (L.length : Int)) = ans) := hans
  rw [hans]
  clear hans
  go_enter Try.func21, Try.ntmps21
  go_wp2_with fail
  refine (tnodes_any _ H.out.c0).mono ?_
  rintro e w' ⟨rfl, rfl⟩
  go_wp2_with fail
  refine (tset_any _ H.out).mono ?_
  rintro e w1 ⟨y, rfl, hy, hb1⟩
  have HN : Hid (Pn.nodes y ((m' : Int)).toNat = L.map (·.1)) := Ty.nodes_of (m := m') hm7 H.out.ma.inc H.out.ma.fits hy
  have HY : Hid (y < 2 ^ ((m' : Int)).toNat) := Ty.set_small H.out.is H.out.ma.fits hy
  have HE : Hid (decide (f + 1 ≤ (((List.range ((m' : Int)).toNat).countP (Pn.bit y) : Nat) : Int)) = ans) := by
    show _ = ans
    rw [← Pn.nodes_length, HN.out, List.length_map, ← HANS.out]
    exact decide_eq_decide.2 (by omega)
  have HB1 : Hid (Below w'.heap.size w' w1) := hb1
  clear hy hb1
  go_wp2_with fail
  refine (enough_yes _ _ H.out.is HY.out).mono ?_
  rintro e w2 ⟨rfl, rfl⟩
  rw [HE.out]
  go_wp2
  go_ret
  exact ⟨rfl, HB1.out⟩
end Go.Proofs.Ytdcknokggjbebaa
