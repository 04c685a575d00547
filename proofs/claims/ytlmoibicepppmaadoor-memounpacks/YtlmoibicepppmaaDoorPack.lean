/-
  What tlv.Pack answers, in whatever world, of fields whose bytes are not too many: by its walk.
-/
import Derived.Test.YtlmoibicepppmaaDoorNum
import Derived.Test.YtlmoibicepppmaaDoorFields
import Derived.Test.YtlmoibicepppmaaDoorPlainP
import Derived.Test.YtlmoibicepppmaaDoorAppend
namespace Go.Proofs.YtlmoibicepppmaaDoor
open Go.ChangeShapes Go.WideShapes Go.ChangeAt Go.RowKit Go.Deep
set_option maxRecDepth 100000

/-- string(b) of a row of bytes of the call's own. -/
theorem conv_own {base : Nat} {W : World} {v : Value} {l : List UInt8} (h : W.ownsRow base 5 1 v l.length (Pl.bcells l)) : (convert 77 9 v).run Tryd.prog W = .ok (.string (Pl.txt l)) W := by
  rcases h.2 with ⟨rfl, hn⟩ | ⟨g, cap, cur, rfl, hbg, hg, hnc, hcm, hcs, htake⟩
  · obtain rfl := List.eq_nil_of_length_eq_zero hn
    exact run_convert_bytes_nil W 77 5 Tryd.underlying77 Tryd.underlying5 0 0 9 Tryd.underlying9
  · have := conv_bytes W g l.length cap (l.map fun b => (b.toNat : Int)) (by simp) (fun i hi => by
      have := h.cells (g := g) rfl i (.int .u8 ((l.map fun b => (b.toNat : Int)).getD i 0)) (by simp [Pl.bcells, List.getD, hi])
      rw [WideShapes.add_plain, Nat.zero_add] at this
      exact this)
    rw [this, List.map_map]
    congr 3
    exact (List.map_congr_left fun b _ => by simp).trans (List.map_id l)

set_option maxRecDepth 100000 in
set_option maxHeartbeats 1000000 in
theorem pack_any (v : Value) (l : List (Int × ByteArray)) (w : World) (hv : FieldsAt w.heap.size w v l) (hE : (Pl.encs l).length ≤ 1099511627776) :
    Calls Tryd.prog 16 #[v] w fun e w' => e = .returned (.tuple #[.string (Pl.packOut l), .int .i64 (Pl.packErr 1 l)]) ∧ Below w.heap.size w w' := by
  rcases hv with ⟨ao, cap, rfl, rfl⟩ | ⟨b, off, cap, rfl, hB, hp, hlc, hm, hx⟩
  · have hcv : ∀ W : World, (convert 77 9 (.slice none 0 0)).run Tryd.prog W = .ok (.string (Pl.txt [])) W := fun W => conv_own (base := 0) (l := []) (World.ownsRow_nil _ _ _ _)
    go_enter Tryd.func16, Tryd.ntmps16
    go_wp2
    refine wp_loop_rounds 1 ?_
    rw [rounds_succ]
    go_wp2
    go_ret2
    exact ⟨rfl, Below.refl _ _⟩
  · unfold maxLen at hm
    obtain ⟨i0, hi, hz0, hz1, hz2⟩ := info_parts info5
    obtain ⟨n, hn⟩ : ∃ n, l.length = n := ⟨_, rfl⟩
    rw [hn] at hp hlc hx ⊢
    have HN : Hid (l.length = n) := hn
    have HX : Hid (∀ i, i < n → w.cell? ⟨b, off + i * 2, none⟩ = some (.int .i64 (l.getD i (0, .empty)).1) ∧ w.cell? ⟨b, off + i * 2 + 1, none⟩ = some (.string (l.getD i (0, .empty)).2)) := hx
    have HE : Hid (∀ k, (Pl.encs (l.take k)).length ≤ 1099511627776) := fun k => Nat.le_trans (Pl.encs_take_le l k) hE
    clear hn hx hE
    go_enter Tryd.func16, Tryd.ntmps16
    go_wp2
    go_loopw [4, 5, 10] (fun r t i wr => ∃ k : Nat, k ≤ n ∧ i = .int .i64 k ∧ t = .int .i64 (Pl.lastAt 1 l k) ∧ Pl.okTo 1 l k ∧ wr.ownsRow w.heap.size 5 1 r (Pl.encs (l.take k)).length (Pl.bcells (Pl.encs (l.take k))) ∧ Below w.heap.size w wr) (fun _ _ i _ => n - (intOf i).toNat)
    case atStart => exact ⟨0, Nat.zero_le _, rfl, rfl, fun i hi => absurd hi (Nat.not_lt_zero _), World.ownsRow_nil _ _ _ _, Below.refl _ _⟩
    case round =>
      obtain ⟨k, hk, rfl, rfl, hok, hown, hbl⟩ := hrel
      have HOK : Hid (Pl.okTo 1 l k) := hok
      clear hok
      have hsz := hbl.size
      by_cases hlt : k < n
      · obtain ⟨c0, c1⟩ := HX.out k hlt
        rw [← hbl.cell (p := ⟨b, off + k * 2, none⟩) hB] at c0
        rw [← hbl.cell (p := ⟨b, off + k * 2 + 1, none⟩) hB] at c1
        generalize hf : l.getD k (0, .empty) = f at *
        have HF : Hid (l.getD k (0, .empty) = f) := hf
        clear hf
        obtain ⟨t, s⟩ := f
        generalize hla : Pl.lastAt 1 l k = la at *
        have HLA : Hid (Pl.lastAt 1 l k = la) := hla
        clear hla
        by_cases h1 : t < 1
        · have H : Hid (Pl.packOut l = Pl.txt [] ∧ Pl.packErr 1 l = 1) := Pl.pack_bad (by rw [HN.out]; exact hlt) HOK.out HLA.out HF.out (by simp [Pl.badAt, h1]) (by decide)
          go_wp2
          go_ret2
          rw [H.out.1, H.out.2]
          exact ⟨rfl, hbl.alloc hsz _⟩
        by_cases h2 : 255 < t
        · have H : Hid (Pl.packOut l = Pl.txt [] ∧ Pl.packErr 1 l = 1) := Pl.pack_bad (by rw [HN.out]; exact hlt) HOK.out HLA.out HF.out (by simp [Pl.badAt, h2]) (by decide)
          go_wp2
          go_ret2
          rw [H.out.1, H.out.2]
          exact ⟨rfl, hbl.alloc hsz _⟩
        by_cases h3 : 65535 < s.size
        · have H : Hid (Pl.packOut l = Pl.txt [] ∧ Pl.packErr 1 l = 2) := Pl.pack_bad (by rw [HN.out]; exact hlt) HOK.out HLA.out HF.out (by simp [Pl.badAt, h1, h2, h3]) (by decide)
          go_wp2
          go_ret2
          rw [H.out.1, H.out.2]
          exact ⟨rfl, hbl.alloc hsz _⟩
        by_cases h4 : t < la
        · have H : Hid (Pl.packOut l = Pl.txt [] ∧ Pl.packErr 1 l = 11) := Pl.pack_bad (by rw [HN.out]; exact hlt) HOK.out HLA.out HF.out (by simp [Pl.badAt, h1, h2, h3, h4]) (by decide)
          go_wp2
          go_ret2
          rw [H.out.1, H.out.2]
          exact ⟨rfl, hbl.alloc hsz _⟩
        have HB : Hid (Pl.okTo 1 l (k + 1)) := Pl.okTo_succ HOK.out (by rw [HLA.out, HF.out]; simp [Pl.badAt, h1, h2, h3, h4])
        have HEN : Hid (Pl.encs (l.take (k + 1)) = Pl.encs (l.take k) ++ Pl.encOne (t, s)) := Pl.encs_take_succ (by rw [HN.out]; exact hlt) HF.out
        have hE1 := HE.out k
        have HC : Hid (Pl.bcells (Pl.encOne (t, s)) = [.int .u8 t, .int .u8 ((s.size : Int) / 256), .int .u8 ((s.size : Int) % 256)] ++ byteCells s) := Pl.encOne_cells t s (by omega) (by omega) (by omega)
        generalize Pl.encs (l.take k) = E at *
        have hblk : ((wr.alloc (.cells #[.int .i64 t, .string s] 78)).alloc (.cells #[.int .u8 t, .int .u8 ((s.size : Int) / 256), .int .u8 ((s.size : Int) % 256)] 5)).heap[wr.heap.size]? = some (.cells #[.int .i64 t, .string s] 78 (0, 0)) := by
          rw [Below.heap_alloc _ _ _ (by simp)]; exact heap_alloc_new wr _
        have HBK : Hid (((wr.alloc (.cells #[.int .i64 t, .string s] 78)).alloc (.cells #[.int .u8 t, .int .u8 ((s.size : Int) / 256), .int .u8 ((s.size : Int) % 256)] 5)).heap[wr.heap.size]? = some (.cells #[.int .i64 t, .string s] 78 (0, 0))) := hblk
        clear hblk
        have hs3 : (s.size : Int) ≤ 65535 := by omega
        go_wp2_with (first
          | (at_builtin; refine wpList_append_own _ rfl (.tmp 33) (.tmp 46) 77 rfl w.heap.size 5 i0 (.int .u8 0) 1 1 Tryd.underlying77 hi hz0 hz1 hz2 rfl (by decide) _ _ _ rfl ((hown.alloc _).alloc _) ⟨wr.heap.size + 1, 0, none⟩ 3 3 [.int .u8 t, .int .u8 ((s.size : Int) / 256), .int .u8 ((s.size : Int) % 256)] rfl rfl (App.three_new _ _ (by simp) _ _ _ _) (App.one3 _ _ _) (by unfold maxLen; omega) (by omega) (by first | omega | (simp; omega)) ?_; intro v1 w1 hown1 hgrow1 _; have hb1 : Hid (w1.heap[wr.heap.size]? = some (.cells #[.int .i64 t, .string s] 78 (0, 0))) := App.keep ((hown.alloc _).alloc _) hgrow1 HBK.out (by decide); have q0 := (App.cell_of_two hb1.out).1; have q1 := (App.cell_of_two hb1.out).2; have hz := hgrow1.size)
          | (at_builtin; refine App.wpList_own _ rfl (.tmp 48) (.tmp 50) 77 9 rfl w.heap.size 5 i0 (.int .u8 0) 1 1 Tryd.underlying77 hi hz0 hz1 hz2 rfl _ _ _ rfl hown1 _ _ _ rfl (Src.ofString _ Tryd.underlying9 s) (by unfold maxLen; omega) (by omega) (by have := hgrow1.size; simp at this; omega) ?_; intro v2 w2 hown2 hgrow2; have q2 := (App.cell_of_two (App.keep hown1 hgrow2 hb1.out (by decide))).1))
        go_roundw
        case rel =>
          refine ⟨k + 1, by omega, by go_num, by rw [Pl.lastAt_succ HF.out], HB.out, ?_, ?_⟩
          · rw [HEN.out, Pl.bcells_append, HC.out]
            have e : (E ++ Pl.encOne (t, s)).length = E.length + 3 + s.size := by rw [List.length_append, show (Pl.encOne (t, s)).length = 3 + s.size from Pl.encOne_length (t, s)]; omega
            rw [e]
            simpa using hown2
          · exact (((hbl.alloc hsz _).alloc (by simp; omega) _).grown hgrow1 (by simp; omega) (fun g hg => (hown.lt g hg).1)).grown hgrow2 (by simp at hz; omega) (fun g hg => (hown1.lt g hg).1)
        case measure => simp [intOf]; omega
      · obtain rfl : k = n := by omega
        have H : Hid (Pl.packOut l = Pl.txt (Pl.encs l) ∧ Pl.packErr 1 l = 0) := Pl.pack_fine (by rw [HN.out]; exact HOK.out)
        rw [List.take_of_length_le (by rw [HN.out]; exact Nat.le_refl _)] at hown
        have hcv := conv_own hown
        go_wp2
        go_ret2
        rw [H.out.1, H.out.2]
        exact ⟨rfl, hbl⟩
end Go.Proofs.YtlmoibicepppmaaDoor
