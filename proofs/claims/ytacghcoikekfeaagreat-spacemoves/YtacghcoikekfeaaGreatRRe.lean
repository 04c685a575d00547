/-
  sextonref11.Reached: which inodes are reached from one by entries.
-/
import Derived.Test.YtacghcoikekfeaaGreatRNm
import Derived.Deep.OwnRows
namespace Go.Proofs.YtacghcoikekfeaaGreat
open Go.ChangeShapes Go.WideShapes Go.ChangeAt Go.RowKit Go.Deep It
set_option maxRecDepth 100000
namespace Sp
/-- An inode is d entries away from another one. -/
def Rch (L : List Ino) : Nat → Nat → Nat → Prop
  | 0, a, c => a = c
  | d + 1, a, c => ∃ p, Rch L d a p ∧ p < L.length ∧ ∃ e ∈ entsAt L p, e.2.2.1 = (c : Int)
def Sound (L : List Ino) (a : Nat) (f : Nat → Bool) : Prop := ∀ c, c < L.length → f c = true → ∃ d, Rch L d a c
def Full (L : List Ino) (a r : Nat) (f : Nat → Bool) : Prop := ∀ d, d ≤ r → ∀ c, c < L.length → Rch L d a c → f c = true
/-- In the middle of a round: what was set at its start, what is now, how far it is. -/
structure Mid (L : List Ino) (a : Nat) (f0 f : Nat → Bool) (k j : Nat) : Prop where
  sound : Sound L a f
  mono : ∀ c, f0 c = true → f c = true
  past : ∀ i, i < k → f0 i = true → ∀ e ∈ entsAt L i, ∀ c : Nat, e.2.2.1 = (c : Int) → c < L.length → f c = true
  here : f0 k = true → ∀ e ∈ (entsAt L k).take j, ∀ c : Nat, e.2.2.1 = (c : Int) → c < L.length → f c = true
def setB (f : Nat → Bool) (c : Nat) (i : Nat) : Bool := if i = c then true else f i
theorem Mid.start {L : List Ino} {a : Nat} {f : Nat → Bool} (h : Sound L a f) : Mid L a f f 0 0 := ⟨h, fun _ h => h, fun i hi => by omega, fun _ e he => by simp at he⟩
theorem setB_mono {f : Nat → Bool} {c i : Nat} (h : f i = true) : setB f c i = true := by unfold setB; split; rfl; exact h
theorem Mid.set {L : List Ino} {a : Nat} {f0 f : Nat → Bool} {k j c : Nat} {e : En} (h : Mid L a f0 f k j) (hk : k < L.length) (he : (entsAt L k)[j]? = some e) (hf : f k = true) (hc : e.2.2.1 = (c : Int)) : Mid L a f0 (setB f c) k (j + 1) := by
  refine ⟨fun i hi hs => ?_, fun i hi => setB_mono (h.mono i hi), fun i hi h0 e' he' c' hc' hl => setB_mono (h.past i hi h0 e' he' c' hc' hl), fun h0 e' he' c' hc' hl => ?_⟩
  · by_cases hic : i = c
    · subst hic
      obtain ⟨d, hd⟩ := h.sound k hk hf
      exact ⟨d + 1, k, hd, hk, e, List.mem_of_getElem? he, hc⟩
    · unfold setB at hs
      rw [if_neg hic] at hs
      exact h.sound i hi hs
  · rw [List.take_add_one, he] at he'
    rcases List.mem_append.1 he' with he' | he'
    · exact setB_mono (h.here h0 e' he' c' hc' hl)
    · simp at he'
      subst he'
      unfold setB
      rw [if_pos (by omega)]
theorem Mid.skip {L : List Ino} {a : Nat} {f0 f : Nat → Bool} {k j : Nat} {e : En} (h : Mid L a f0 f k j) (he : (entsAt L k)[j]? = some e) (hf : f k = true → 0 ≤ e.2.2.1 → (L.length : Int) ≤ e.2.2.1) : Mid L a f0 f k (j + 1) := by
  refine ⟨h.sound, h.mono, h.past, fun h0 e' he' c' hc' hl => ?_⟩
  rw [List.take_add_one, he] at he'
  rcases List.mem_append.1 he' with he' | he'
  · exact h.here h0 e' he' c' hc' hl
  · simp at he'
    subst he'
    have := hf (h.mono k h0) (by omega)
    omega
theorem Mid.next {L : List Ino} {a : Nat} {f0 f : Nat → Bool} {k j : Nat} (h : Mid L a f0 f k j) (hj : (entsAt L k).length ≤ j) : Mid L a f0 f (k + 1) 0 := by
  refine ⟨h.sound, h.mono, fun i hi h0 e he c hc hl => ?_, fun _ e he => by simp at he⟩
  by_cases hik : i = k
  · subst hik
    exact h.here h0 e (by rw [List.take_of_length_le hj]; exact he) c hc hl
  · exact h.past i (by omega) h0 e he c hc hl
theorem Mid.done {L : List Ino} {a r : Nat} {f0 f : Nat → Bool} (h : Mid L a f0 f L.length 0) (hf : Full L a r f0) : Full L a (r + 1) f := by
  intro d hd c hc hr
  by_cases hd' : d ≤ r
  · exact h.mono c (hf d hd' c hc hr)
  · have : d = r + 1 := by omega
    subst this
    obtain ⟨p, hp, hpl, e, he, hec⟩ := hr
    exact h.past p hpl (hf r (Nat.le_refl _) p hpl hp) e he c hec hc
theorem sound_one {L : List Ino} {a : Nat} : Sound L a (setB (fun _ => false) a) := fun c _ hs => by
  unfold setB at hs
  split at hs
  · rename_i h; exact ⟨0, h.symm⟩
  · cases hs
theorem full_one {L : List Ino} {a : Nat} : Full L a 0 (setB (fun _ => false) a) := fun d hd c _ hr => by
  have : d = 0 := by omega
  subst this
  have h : a = c := hr
  unfold setB
  rw [if_pos h.symm]
end Sp
theorem bools_set {w : World} {b n : Nat} {f : Nat → Bool} (h : w.rowIs b 4 n (fun i => .bool (f i))) (c : Nat) : (w.setCell ⟨b, c, none⟩ (.bool true)).rowIs b 4 n (fun i => .bool (Sp.setB f c i)) :=
  (h.set c (.bool true)).congr fun i _ => by unfold Sp.setB; split <;> rfl
theorem Tryz.info4 : (Tryz.prog.info? 4).map (fun i => (i.zero, i.size, i.bytes)) = some (some (.bool false), 1, 1) := by kernel_rfl
set_option maxHeartbeats 4000000 in
theorem reach_any {S : Nat → Prop} (v : Value) (L : List Rw) (no : Nat) (w : World) (hv : TabAt S w v L) (hL : L.length ≤ 1000) (hno : no < L.length) :
    Calls Tryz.prog 39 #[v, .int .i64 no] w fun e w' => e = .returned (.slice (some ⟨w.heap.size, 0, none⟩) L.length L.length) ∧ Below w.heap.size w w' ∧ ∃ f : Nat → Bool, w'.rowIs w.heap.size 4 L.length (fun i => .bool (f i)) ∧ Sp.Sound (pl L) no f ∧ Sp.Full (pl L) no L.length f := by
  obtain ⟨ao, cap, rfl, -, -⟩ := hv.open
  obtain ⟨n, hn⟩ : ∃ n, L.length = n := ⟨_, rfl⟩
  rw [hn] at hv hL hno ⊢
  have HN : Hid (L.length = n) := hn
  have HPL : Hid ((pl L).length = n) := by show _ = _; rw [List.length_map]; exact hn
  have HV : Hid (TabAt S w (.slice ao n cap) L) := hv
  clear hn hv
  obtain ⟨ti, hti, htz⟩ := Option.map_eq_some_iff.1 Tryz.info4
  simp only [Prod.mk.injEq] at htz
  obtain ⟨htz, hts, htb⟩ := htz
  have htbb : ti.bytes * n ≤ 281474976710656 := by rw [htb]; omega
  obtain ⟨b, hb⟩ : ∃ b, w.heap.size = b := ⟨_, rfl⟩
  obtain ⟨W1, hW1⟩ : ∃ W1, W1 = w.alloc (.cells (madeCells #[.bool false] n) 4) := ⟨_, rfl⟩
  have HB1 : Hid (Below w.heap.size w W1) := by show Below _ _ _; rw [hW1]; exact (Below.refl _ _).alloc (Nat.le_refl _) _
  have HR1 : Hid (W1.rowIs b 4 n (fun i => .bool ((fun _ => false) i))) := by show World.rowIs _ _ _ _ _; rw [hW1, ← hb]; exact World.rowIs_made w (.bool false) n 4
  have HBB : Hid (w.heap.size = b) := hb
  have hno' : (no : Int) < (n : Int) := by omega
  go_enter Tryz.func39, Tryz.ntmps39
  have HW1 : Hid (w.alloc (.cells (madeCells #[.bool false] n) 4) = W1) := hW1.symm
  clear hW1
  have c1 := HR1.out.cell hno
  have f1 := HR1.out.frozen no
  clear hb
  go_wp2_with (refine wpList_make_row _ rfl (.tmp 12) (.tmp 12) 72 rfl 4 ti (.bool false) rfl hti htz hts rfl .i64 .i64 n rfl rfl htbb (by omega) ?_; rw [HW1.out, HBB.out])
  obtain ⟨W2, hW2⟩ : ∃ W2, W2 = W1.setCell ⟨b, no, none⟩ (.bool true) := ⟨_, rfl⟩
  have HB2 : Hid (Below b w W2) := by show Below _ _ _; rw [hW2, ← HBB.out]; exact HB1.out.setCell (Nat.le_refl _) _
  have HR2 : Hid (W2.rowIs b 4 n (fun i => .bool (Sp.setB (fun _ => false) no i))) := by show World.rowIs _ _ _ _ _; rw [hW2]; exact bools_set HR1.out no
  try rw [← hW2]
  clear c1 f1 hW2 hti htz hts htb htbb
  go_loopw [6] (fun i wr => ∃ (r : Nat) (f : Nat → Bool), r ≤ n ∧ i = .int .i64 r ∧ Hid (Sp.Sound (pl L) no f ∧ Sp.Full (pl L) no r f) ∧ Hid (wr.rowIs b 4 n (fun i => .bool (f i))) ∧ Hid (Below b w wr)) (fun i _ => n - (intOf i).toNat)
  case atStart => exact ⟨0, _, Nat.zero_le _, rfl, ⟨Sp.sound_one, Sp.full_one⟩, HR2.out, HB2.out⟩
  case round =>
    obtain ⟨r, f0, hr, rfl, HF0, HR3, HB3⟩ := hrel
    by_cases hrn : r < n
    · have hrn' : (r : Int) < (n : Int) := by omega
      go_wp2
      go_loopw [25] (fun i wr => ∃ (k : Nat) (f : Nat → Bool), k ≤ n ∧ i = .int .i64 k ∧ Hid (Sp.Mid (pl L) no f0 f k 0) ∧ Hid (wr.rowIs b 4 n (fun i => .bool (f i))) ∧ Hid (Below b w wr)) (fun i _ => n - (intOf i).toNat)
      case atStart => exact ⟨0, f0, Nat.zero_le _, rfl, Sp.Mid.start HF0.out.1, HR3.out, HB3.out⟩
      case round =>
        obtain ⟨k, f, hk, rfl, HM0, HR4, HB4⟩ := hrel
        by_cases hkn : k < n
        · obtain ⟨x, hxk⟩ : ∃ x, L[k]? = some x := ⟨_, List.getElem?_eq_getElem (by rw [HN.out]; exact hkn)⟩
          obtain ⟨⟨b1, off, rfl, hB, hc⟩, hen, hel, hes⟩ := tab_eight HV.out hxk
          have HES : Hid (∀ j e, x.i.ents[j]? = some e → ∃ b' off, x.ep = some ⟨b', off, none⟩ ∧ b' < b ∧ ent4 w b' (off + j * 4) e) := by rw [← HBB.out]; exact hes
          have HEA : Hid (Sp.entsAt (pl L) k = x.i.ents) := (ents_at hxk).1
          obtain ⟨c0, c1, c2, c3, c4, c5, c6, c7⟩ := hc.below HB4.out (by rw [← HBB.out]; exact hB)
          have hkn' : (k : Int) < (n : Int) := by omega
          obtain ⟨m, hm⟩ : ∃ m, x.en = m := ⟨_, rfl⟩
          obtain ⟨ep, hep⟩ : ∃ ep, x.ep = ep := ⟨_, rfl⟩
          have HM : Hid (x.i.ents.length = m) := hen.symm.trans hm
          have hmb : m ≤ 3518437208883 := by rw [← HM.out]; exact hel
          have HEP : Hid (x.ep = ep) := hep
          rw [hm, hep] at c6
          clear hc hxk hes hen hel hm hep
          go_wp2
          go_loopw [33] (fun i wr => ∃ (j : Nat) (f : Nat → Bool), j ≤ m ∧ i = .int .i64 j ∧ Hid (Sp.Mid (pl L) no f0 f k j) ∧ Hid (wr.rowIs b 4 n (fun i => .bool (f i))) ∧ Hid (Below b w wr)) (fun i _ => m - (intOf i).toNat)
          case atStart => exact ⟨0, f, Nat.zero_le _, rfl, HM0.out, HR4.out.alloc _, HB4.out.alloc (Nat.le_of_lt HR4.out.lt) _⟩
          case round =>
            obtain ⟨j, f5, hj, rfl, HM5, HR5, HB5⟩ := hrel
            have hlt5 := HR5.out.lt
            have hsz5 := Nat.le_of_lt hlt5
            clear c0 c1 c2 c3 c4 c5 c6 c7
            by_cases hjm : j < m
            · obtain ⟨⟨s, ck, no2, gn⟩, hej⟩ : ∃ e, x.i.ents[j]? = some e := ⟨_, List.getElem?_eq_getElem (by rw [HM.out]; exact hjm)⟩
              obtain ⟨b2, off2, hep, hb2, h4⟩ := HES.out j _ hej
              obtain rfl : ep = some ⟨b2, off2, none⟩ := HEP.out.symm.trans hep
              obtain ⟨d0, d1, d2, d3⟩ := h4.below HB5.out hb2
              simp only at d0 d1 d2 d3
              have hjm' : (j : Int) < (m : Int) := by omega
              have HEJ : Hid ((Sp.entsAt (pl L) k)[j]? = some (s, ck, no2, gn)) := by rw [HEA.out]; exact hej
              have q1 := HR5.out.cell hkn
              clear hej hep h4
              by_cases hset : f5 k = true ∧ 0 ≤ no2 ∧ no2 < (n : Int)
              · obtain ⟨hs1, hs2, hs3⟩ := hset
                obtain ⟨c, rfl⟩ : ∃ c : Nat, no2 = (c : Int) := ⟨no2.toNat, by omega⟩
                have hcn : c < n := by omega
                rw [hs1] at q1
                have q2 := HR5.out.cell hcn
                have q3 := HR5.out.frozen c
                have HM6 : Hid (Sp.Mid (pl L) no f0 (Sp.setB f5 c) k (j + 1)) := HM5.out.set (by rw [HPL.out]; exact hkn) HEJ.out hs1 rfl
                clear hs1
                go_wp2
                go_roundw
                case rel => exact ⟨j + 1, _, by omega, by go_num, HM6.out, by first | exact bools_set (HR5.out.alloc _) c | exact (bools_set HR5.out c).alloc _, by first | exact (HB5.out.alloc hsz5 _).setCell (Nat.le_refl _) _ | exact (HB5.out.setCell (Nat.le_refl _) _).alloc (by simp; exact hsz5) _⟩
                case measure => simp [intOf]; omega
              · have HM6 : Hid (Sp.Mid (pl L) no f0 f5 k (j + 1)) := HM5.out.skip HEJ.out (fun h1 h2 => by rw [HPL.out]; exact Int.not_lt.1 (fun h => hset ⟨h1, h2, h⟩))
                cases hfk : f5 k with
                | false =>
                  rw [hfk] at q1
                  clear hfk hset
                  go_wp2
                  go_roundw
                  case rel => exact ⟨j + 1, _, by omega, by go_num, HM6.out, HR5.out.alloc _, HB5.out.alloc hsz5 _⟩
                  case measure => simp [intOf]; omega
                | true =>
                  rw [hfk] at q1
                  by_cases hs2 : 0 ≤ no2
                  · have hs3 : ¬ no2 < (n : Int) := fun h => hset ⟨hfk, hs2, h⟩
                    clear hfk hset
                    go_wp2
                    go_roundw
                    case rel => exact ⟨j + 1, _, by omega, by go_num, HM6.out, HR5.out.alloc _, HB5.out.alloc hsz5 _⟩
                    case measure => simp [intOf]; omega
                  · clear hfk hset
                    go_wp2
                    go_roundw
                    case rel => exact ⟨j + 1, _, by omega, by go_num, HM6.out, HR5.out.alloc _, HB5.out.alloc hsz5 _⟩
                    case measure => simp [intOf]; omega
            · obtain rfl : m = j := by omega
              have HM6 : Hid (Sp.Mid (pl L) no f0 f5 (k + 1) 0) := HM5.out.next (by rw [HEA.out, HM.out]; exact Nat.le_refl _)
              go_wp2
              go_roundw
              case rel => exact ⟨k + 1, _, by omega, by go_num, HM6.out, HR5.out, HB5.out⟩
              case measure => simp [intOf]; omega
        · obtain rfl : n = k := by omega
          have HF6 : Hid (Sp.Sound (pl L) no f ∧ Sp.Full (pl L) no (r + 1) f) := ⟨HM0.out.sound, Sp.Mid.done (by rw [HPL.out]; exact HM0.out) HF0.out.2⟩
          go_wp2
          go_roundw
          case rel => exact ⟨r + 1, _, by omega, by go_num, HF6.out, HR4.out, HB4.out⟩
          case measure => simp [intOf]; omega
    · obtain rfl : n = r := by omega
      go_wp2
      go_ret
      rw [HBB.out]
      exact ⟨rfl, HB3.out, f0, HR3.out, HF0.out.1, HF0.out.2⟩
end Go.Proofs.YtacghcoikekfeaaGreat
