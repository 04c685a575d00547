/-
  The statement's does: one step of both inboxes.
-/
import Derived.Test.YtocainggkdmojaaIRef
namespace Go.Proofs.Ytocainggkdmojaa
open Go.Conc Go.ChangeShapes Go.WideShapes Go.ChangeAt Go.RowKit Go.Deep
/-- What a step leaves. -/
def dU (t : Int) (s : ByteArray) (cl : Bool) (room : Nat) (U : List ByteArray) : List ByteArray := if t = 1 then putL cl room U s else if t = 2 then U.tail else if t = 3 then [] else U
def dN (t : Int) (s : ByteArray) (cl : Bool) (room : Nat) (U N : List ByteArray) : List ByteArray := if t = 0 then putL cl room N s else if t = 2 then tkN U N else if t = 3 then [] else N
def dC (t : Int) (cl : Bool) : Bool := if t = 4 then true else cl
/-- Both inboxes, the same. -/
structure Bo (n : Nat) (w : World) (B cu cn A room : Nat) (cl : Bool) (U N : List ByteArray) : Prop where
  inb : In w B cu cn room cl U N
  rf : ∃ p1 c1 p2 c2, Rf n w A room cl (.slice p1 U.length c1) (.slice p2 N.length c2) U N
  lo : n ≤ B ∧ n ≤ cu ∧ n ≤ cn
  lu : U.length ≤ room
  ln : N.length ≤ room
theorem Bo.up {n : Nat} {w w' : World} {B cu cn A room : Nat} {cl : Bool} {U N : List ByteArray} (h : Bo n w B cu cn A room cl U N) (hb : Below w.heap.size w w') : Bo n w' B cu cn A room cl U N :=
  ⟨h.inb.below hb, let ⟨a, b, c, d, e⟩ := h.rf; ⟨a, b, c, d, e.up hb⟩, h.lo, h.lu, h.ln⟩
theorem putL_len (cl : Bool) (room : Nat) (l : List ByteArray) (x : ByteArray) (h : l.length ≤ room) : (putL cl room l x).length ≤ room := by
  unfold putL
  split
  · exact h
  · split
    · simp; omega
    · exact h
theorem tkN_len (U N : List ByteArray) : (tkN U N).length ≤ N.length := by
  cases U with
  | nil => show N.tail.length ≤ _; simp
  | cons x U => exact Nat.le_refl _
set_option maxRecDepth 100000 in
set_option maxHeartbeats 4000000 in
theorem does_putt (s : ByteArray) (n B cu cn A room : Nat) (cl : Bool) (U N : List ByteArray) (w : World) (h : Bo n w B cu cn A room cl U N) (hr : room ≤ 256) : Calls Try.prog 9 #[.pointer (some ⟨B, 0, none⟩), .pointer (some ⟨A, 0, none⟩), .agg #[.int .i64 1, .string s]] w fun e w' => e = .returned (.bool true) ∧ Bo n w' B cu cn A room cl (putL cl room U s) N ∧ Below n w w' := by
  obtain ⟨p1, c1, p2, c2, hrf⟩ := h.rf
  have hb0 := below_alloc w (BX 1 s)
  have hh := h.up hb0
  have hrr := hrf.up hb0
  have hbb : Below n w (w.alloc (BX 1 s)) := hb0.mono hrf.hn
  have hbx : (w.alloc (BX 1 s)).heap[w.heap.size]? = some (BX 1 s) := heap_alloc_new _ _
  obtain ⟨W, hW⟩ : ∃ W, w.alloc (BX 1 s) = W := ⟨_, rfl⟩
  have HW : Hid (w.alloc (BX 1 s) = W) := hW
  rw [hW] at hh hrr hbb hbx
  obtain ⟨X, hX⟩ : ∃ X, w.heap.size = X := ⟨_, rfl⟩
  have HXX : Hid (w.heap.size = X) := hX
  rw [hX] at hbx
  have HH : Hid (Bo n W B cu cn A room cl U N) := hh
  have HRF : Hid (Rf n W A room cl (.slice p1 U.length c1) (.slice p2 N.length c2) U N) := hrr
  have HB0 : Hid (Below n w W) := hbb
  have HBX : Hid (W.heap[X]? = some (BX 1 s)) := hbx
  have HLO : Hid (n ≤ B ∧ n ≤ cu ∧ n ≤ cn) := h.lo
  have HRR : Hid (room ≤ 256 ∧ U.length ≤ room ∧ N.length ≤ room) := ⟨hr, h.lu, h.ln⟩
  obtain ⟨x0, x1⟩ := bx_of hbx
  obtain ⟨xw0, xw1⟩ := bx_of (heap_alloc_new w (BX 1 s))
  rw [hX] at xw0 xw1
  clear hb0 h hrf hh hrr hbb hbx hX hW
  have HS : Hid (∀ V : World, V.heap[X]? = some (BX 1 s) → V.cell? ⟨X, 0, none⟩ = some (.int .i64 1) ∧ V.cell? ⟨X, 1, none⟩ = some (.string s)) := fun V hV => bx_of hV
  obtain ⟨E, hE⟩ : ∃ E, putE cl room U = E := ⟨_, rfl⟩
  have HPI : Hid (∀ V : World, In V B cu cn room cl U N → Calls Try.prog 11 #[.pointer (some ⟨B, 0, none⟩), .bool true, .string s] V fun e w' => e = .returned (.int .i64 E) ∧ In w' B cu cn room cl (putL cl room U s) N ∧ Oth B cu cn V w') := fun V hV => by rw [← hE]; exact put_any B cu cn room cl true U N s V hV
  have HPR : Hid (∀ V : World, (∃ p1 c1 p2 c2, Rf n V A room cl (.slice p1 U.length c1) (.slice p2 N.length c2) U N) → Calls Try.prog 16 #[.pointer (some ⟨A, 0, none⟩), .bool true, .string s] V fun e w' => e = .returned (.int .i64 E) ∧ (∃ p1 c1 p2 c2, Rf n w' A room cl (.slice p1 (putL cl room U s).length c1) (.slice p2 N.length c2) (putL cl room U s) N) ∧ Rk n V w') := fun V hV => by
    obtain ⟨a1, a2, a3, a4, hV⟩ := hV
    rw [← hE]
    exact rput_any n A room cl true a1 a2 a3 a4 U N s V hV HRR.out.2.1 HRR.out.2.2 HRR.out.1
  have HD : Hid (∀ V : World, V.heap = W.heap → V.os = W.os → V.tape = W.tape → V.output = W.output → In V B cu cn room cl U N ∧ (∃ p1 c1 p2 c2, Rf n V A room cl (.slice p1 U.length c1) (.slice p2 N.length c2) U N) ∧ Below n w V ∧ V.heap[X]? = some (BX 1 s)) := fun V e1 e2 e3 e4 => by
    have hb : Below W.heap.size W V := ⟨e2, e3, e4, by rw [e1]; exact Nat.le_refl _, fun k _ => by rw [e1]⟩
    exact ⟨HH.out.inb.below hb, ⟨_, _, _, _, HRF.out.up hb⟩, HB0.out.trans (hb.mono HRF.out.hn), by rw [e1]; exact HBX.out⟩
  have K0 : Hid (In W.drew B cu cn room cl U N ∧ (∃ p1 c1 p2 c2, Rf n W.drew A room cl (.slice p1 U.length c1) (.slice p2 N.length c2) U N) ∧ Below n w W.drew ∧ W.drew.heap[X]? = some (BX 1 s)) := HD.out _ rfl rfl rfl rfl
  have hEE : (E == E) = true := beq_self_eq_true _
  have HLU : Hid ((putL cl room U s).length ≤ room ∧ N.length ≤ room) := ⟨by first | exact HRR.out.2.1 | exact putL_len _ _ _ _ HRR.out.2.1, by first | exact HRR.out.2.2 | exact putL_len _ _ _ _ HRR.out.2.2⟩
  clear hE HD
  go_enter Try.func9, Try.ntmps9
  go_wp2_with fail
  rw [HW.out, HXX.out]
  clear xw0 xw1 x0 x1
  go_region_held3 (fun V => V.cell? ⟨X, 0, none⟩ = some (.int .i64 1) ∧ V.cell? ⟨X, 1, none⟩ = some (.string s)) (first | exact HS.out _ K0.out.2.2.2 | exact HS.out _ KA.out.2.2.2 | exact HS.out _ KB.out.2.2.2 | exact HS.out _ KF.out.2.2.2) (first
    | (go_at_call 11; (with_reducible refine (HPI.out _ K0.out.1).mono ?_); rintro e y1 ⟨rfl, hi1, ho1⟩; have KA : Hid (In y1 B cu cn room cl (putL cl room U s) N ∧ (∃ p1 c1 p2 c2, Rf n y1 A room cl (.slice p1 U.length c1) (.slice p2 N.length c2) U N) ∧ Below n w y1 ∧ y1.heap[X]? = some (BX 1 s)) := ⟨hi1, (let ⟨a1, a2, a3, a4, hq⟩ := K0.out.2.1; ⟨a1, a2, a3, a4, hq.oth K0.out.1 ho1⟩), ho1.below K0.out.2.2.1 (let ⟨_, _, _, _, hq⟩ := K0.out.2.1; hq.hn) HLO.out.1 HLO.out.2.1 HLO.out.2.2, ho1.keep K0.out.1 K0.out.2.2.2 (by decide)⟩; clear hi1 ho1)
    | (go_at_call 16; (with_reducible refine (HPR.out _ K0.out.2.1).mono ?_); rintro e y1 ⟨rfl, hr1, hk1⟩; have KB : Hid (In y1 B cu cn room cl U N ∧ (∃ p1 c1 p2 c2, Rf n y1 A room cl (.slice p1 (putL cl room U s).length c1) (.slice p2 N.length c2) (putL cl room U s) N) ∧ Below n w y1 ∧ y1.heap[X]? = some (BX 1 s)) := ⟨K0.out.1.rk hk1, hr1, K0.out.2.2.1.trans hk1.bel, hk1.kind _ _ K0.out.2.2.2 (fun _ _ e => by simp at e) (fun _ _ e => by simp at e)⟩; clear hr1 hk1)
    | (go_at_call 16; (with_reducible refine (HPR.out _ KA.out.2.1).mono ?_); rintro e y2 ⟨rfl, hr1, hk1⟩; have KF : Hid (In y2 B cu cn room cl (putL cl room U s) N ∧ (∃ p1 c1 p2 c2, Rf n y2 A room cl (.slice p1 (putL cl room U s).length c1) (.slice p2 N.length c2) (putL cl room U s) N) ∧ Below n w y2 ∧ y2.heap[X]? = some (BX 1 s)) := ⟨KA.out.1.rk hk1, hr1, KA.out.2.2.1.trans hk1.bel, hk1.kind _ _ KA.out.2.2.2 (fun _ _ e => by simp at e) (fun _ _ e => by simp at e)⟩; clear hr1 hk1)
    | (go_at_call 11; (with_reducible refine (HPI.out _ KB.out.1).mono ?_); rintro e y2 ⟨rfl, hi1, ho1⟩; have KF : Hid (In y2 B cu cn room cl (putL cl room U s) N ∧ (∃ p1 c1 p2 c2, Rf n y2 A room cl (.slice p1 (putL cl room U s).length c1) (.slice p2 N.length c2) (putL cl room U s) N) ∧ Below n w y2 ∧ y2.heap[X]? = some (BX 1 s)) := ⟨hi1, (let ⟨a1, a2, a3, a4, hq⟩ := KB.out.2.1; ⟨a1, a2, a3, a4, hq.oth KB.out.1 ho1⟩), ho1.below KB.out.2.2.1 (let ⟨_, _, _, _, hq⟩ := KB.out.2.1; hq.hn) HLO.out.1 HLO.out.2.1 HLO.out.2.2, ho1.keep KB.out.1 KB.out.2.2.2 (by decide)⟩; clear hi1 ho1))
  all_goals
    go_wp2
    go_ret
    exact ⟨rfl, ⟨KF.out.1, KF.out.2.1, HLO.out, HLU.out.1, HLU.out.2⟩, KF.out.2.2.1⟩
set_option maxRecDepth 100000 in
set_option maxHeartbeats 4000000 in
theorem does_putf (s : ByteArray) (n B cu cn A room : Nat) (cl : Bool) (U N : List ByteArray) (w : World) (h : Bo n w B cu cn A room cl U N) (hr : room ≤ 256) : Calls Try.prog 9 #[.pointer (some ⟨B, 0, none⟩), .pointer (some ⟨A, 0, none⟩), .agg #[.int .i64 0, .string s]] w fun e w' => e = .returned (.bool true) ∧ Bo n w' B cu cn A room cl U (putL cl room N s) ∧ Below n w w' := by
  obtain ⟨p1, c1, p2, c2, hrf⟩ := h.rf
  have hb0 := below_alloc w (BX 0 s)
  have hh := h.up hb0
  have hrr := hrf.up hb0
  have hbb : Below n w (w.alloc (BX 0 s)) := hb0.mono hrf.hn
  have hbx : (w.alloc (BX 0 s)).heap[w.heap.size]? = some (BX 0 s) := heap_alloc_new _ _
  obtain ⟨W, hW⟩ : ∃ W, w.alloc (BX 0 s) = W := ⟨_, rfl⟩
  have HW : Hid (w.alloc (BX 0 s) = W) := hW
  rw [hW] at hh hrr hbb hbx
  obtain ⟨X, hX⟩ : ∃ X, w.heap.size = X := ⟨_, rfl⟩
  have HXX : Hid (w.heap.size = X) := hX
  rw [hX] at hbx
  have HH : Hid (Bo n W B cu cn A room cl U N) := hh
  have HRF : Hid (Rf n W A room cl (.slice p1 U.length c1) (.slice p2 N.length c2) U N) := hrr
  have HB0 : Hid (Below n w W) := hbb
  have HBX : Hid (W.heap[X]? = some (BX 0 s)) := hbx
  have HLO : Hid (n ≤ B ∧ n ≤ cu ∧ n ≤ cn) := h.lo
  have HRR : Hid (room ≤ 256 ∧ U.length ≤ room ∧ N.length ≤ room) := ⟨hr, h.lu, h.ln⟩
  obtain ⟨x0, x1⟩ := bx_of hbx
  obtain ⟨xw0, xw1⟩ := bx_of (heap_alloc_new w (BX 0 s))
  rw [hX] at xw0 xw1
  clear hb0 h hrf hh hrr hbb hbx hX hW
  have HS : Hid (∀ V : World, V.heap[X]? = some (BX 0 s) → V.cell? ⟨X, 0, none⟩ = some (.int .i64 0) ∧ V.cell? ⟨X, 1, none⟩ = some (.string s)) := fun V hV => bx_of hV
  obtain ⟨E, hE⟩ : ∃ E, putE cl room N = E := ⟨_, rfl⟩
  have HPI : Hid (∀ V : World, In V B cu cn room cl U N → Calls Try.prog 11 #[.pointer (some ⟨B, 0, none⟩), .bool false, .string s] V fun e w' => e = .returned (.int .i64 E) ∧ In w' B cu cn room cl U (putL cl room N s) ∧ Oth B cu cn V w') := fun V hV => by rw [← hE]; exact put_any B cu cn room cl false U N s V hV
  have HPR : Hid (∀ V : World, (∃ p1 c1 p2 c2, Rf n V A room cl (.slice p1 U.length c1) (.slice p2 N.length c2) U N) → Calls Try.prog 16 #[.pointer (some ⟨A, 0, none⟩), .bool false, .string s] V fun e w' => e = .returned (.int .i64 E) ∧ (∃ p1 c1 p2 c2, Rf n w' A room cl (.slice p1 U.length c1) (.slice p2 (putL cl room N s).length c2) U (putL cl room N s)) ∧ Rk n V w') := fun V hV => by
    obtain ⟨a1, a2, a3, a4, hV⟩ := hV
    rw [← hE]
    exact rput_any n A room cl false a1 a2 a3 a4 U N s V hV HRR.out.2.1 HRR.out.2.2 HRR.out.1
  have HD : Hid (∀ V : World, V.heap = W.heap → V.os = W.os → V.tape = W.tape → V.output = W.output → In V B cu cn room cl U N ∧ (∃ p1 c1 p2 c2, Rf n V A room cl (.slice p1 U.length c1) (.slice p2 N.length c2) U N) ∧ Below n w V ∧ V.heap[X]? = some (BX 0 s)) := fun V e1 e2 e3 e4 => by
    have hb : Below W.heap.size W V := ⟨e2, e3, e4, by rw [e1]; exact Nat.le_refl _, fun k _ => by rw [e1]⟩
    exact ⟨HH.out.inb.below hb, ⟨_, _, _, _, HRF.out.up hb⟩, HB0.out.trans (hb.mono HRF.out.hn), by rw [e1]; exact HBX.out⟩
  have K0 : Hid (In W.drew B cu cn room cl U N ∧ (∃ p1 c1 p2 c2, Rf n W.drew A room cl (.slice p1 U.length c1) (.slice p2 N.length c2) U N) ∧ Below n w W.drew ∧ W.drew.heap[X]? = some (BX 0 s)) := HD.out _ rfl rfl rfl rfl
  have hEE : (E == E) = true := beq_self_eq_true _
  have HLU : Hid (U.length ≤ room ∧ (putL cl room N s).length ≤ room) := ⟨by first | exact HRR.out.2.1 | exact putL_len _ _ _ _ HRR.out.2.1, by first | exact HRR.out.2.2 | exact putL_len _ _ _ _ HRR.out.2.2⟩
  clear hE HD
  go_enter Try.func9, Try.ntmps9
  go_wp2_with fail
  rw [HW.out, HXX.out]
  clear xw0 xw1 x0 x1
  go_region_held3 (fun V => V.cell? ⟨X, 0, none⟩ = some (.int .i64 0) ∧ V.cell? ⟨X, 1, none⟩ = some (.string s)) (first | exact HS.out _ K0.out.2.2.2 | exact HS.out _ KA.out.2.2.2 | exact HS.out _ KB.out.2.2.2 | exact HS.out _ KF.out.2.2.2) (first
    | (go_at_call 11; (with_reducible refine (HPI.out _ K0.out.1).mono ?_); rintro e y1 ⟨rfl, hi1, ho1⟩; have KA : Hid (In y1 B cu cn room cl U (putL cl room N s) ∧ (∃ p1 c1 p2 c2, Rf n y1 A room cl (.slice p1 U.length c1) (.slice p2 N.length c2) U N) ∧ Below n w y1 ∧ y1.heap[X]? = some (BX 0 s)) := ⟨hi1, (let ⟨a1, a2, a3, a4, hq⟩ := K0.out.2.1; ⟨a1, a2, a3, a4, hq.oth K0.out.1 ho1⟩), ho1.below K0.out.2.2.1 (let ⟨_, _, _, _, hq⟩ := K0.out.2.1; hq.hn) HLO.out.1 HLO.out.2.1 HLO.out.2.2, ho1.keep K0.out.1 K0.out.2.2.2 (by decide)⟩; clear hi1 ho1)
    | (go_at_call 16; (with_reducible refine (HPR.out _ K0.out.2.1).mono ?_); rintro e y1 ⟨rfl, hr1, hk1⟩; have KB : Hid (In y1 B cu cn room cl U N ∧ (∃ p1 c1 p2 c2, Rf n y1 A room cl (.slice p1 U.length c1) (.slice p2 (putL cl room N s).length c2) U (putL cl room N s)) ∧ Below n w y1 ∧ y1.heap[X]? = some (BX 0 s)) := ⟨K0.out.1.rk hk1, hr1, K0.out.2.2.1.trans hk1.bel, hk1.kind _ _ K0.out.2.2.2 (fun _ _ e => by simp at e) (fun _ _ e => by simp at e)⟩; clear hr1 hk1)
    | (go_at_call 16; (with_reducible refine (HPR.out _ KA.out.2.1).mono ?_); rintro e y2 ⟨rfl, hr1, hk1⟩; have KF : Hid (In y2 B cu cn room cl U (putL cl room N s) ∧ (∃ p1 c1 p2 c2, Rf n y2 A room cl (.slice p1 U.length c1) (.slice p2 (putL cl room N s).length c2) U (putL cl room N s)) ∧ Below n w y2 ∧ y2.heap[X]? = some (BX 0 s)) := ⟨KA.out.1.rk hk1, hr1, KA.out.2.2.1.trans hk1.bel, hk1.kind _ _ KA.out.2.2.2 (fun _ _ e => by simp at e) (fun _ _ e => by simp at e)⟩; clear hr1 hk1)
    | (go_at_call 11; (with_reducible refine (HPI.out _ KB.out.1).mono ?_); rintro e y2 ⟨rfl, hi1, ho1⟩; have KF : Hid (In y2 B cu cn room cl U (putL cl room N s) ∧ (∃ p1 c1 p2 c2, Rf n y2 A room cl (.slice p1 U.length c1) (.slice p2 (putL cl room N s).length c2) U (putL cl room N s)) ∧ Below n w y2 ∧ y2.heap[X]? = some (BX 0 s)) := ⟨hi1, (let ⟨a1, a2, a3, a4, hq⟩ := KB.out.2.1; ⟨a1, a2, a3, a4, hq.oth KB.out.1 ho1⟩), ho1.below KB.out.2.2.1 (let ⟨_, _, _, _, hq⟩ := KB.out.2.1; hq.hn) HLO.out.1 HLO.out.2.1 HLO.out.2.2, ho1.keep KB.out.1 KB.out.2.2.2 (by decide)⟩; clear hi1 ho1))
  all_goals
    go_wp2
    go_ret
    exact ⟨rfl, ⟨KF.out.1, KF.out.2.1, HLO.out, HLU.out.1, HLU.out.2⟩, KF.out.2.2.1⟩
set_option maxRecDepth 100000 in
set_option maxHeartbeats 4000000 in
theorem does_take (s : ByteArray) (n B cu cn A room : Nat) (cl : Bool) (U N : List ByteArray) (w : World) (h : Bo n w B cu cn A room cl U N) (hr : room ≤ 256) : Calls Try.prog 9 #[.pointer (some ⟨B, 0, none⟩), .pointer (some ⟨A, 0, none⟩), .agg #[.int .i64 2, .string s]] w fun e w' => e = .returned (.bool true) ∧ Bo n w' B cu cn A room cl U.tail (tkN U N) ∧ Below n w w' := by
  obtain ⟨p1, c1, p2, c2, hrf⟩ := h.rf
  have hb0 := below_alloc w (BX 2 s)
  have hh := h.up hb0
  have hrr := hrf.up hb0
  have hbb : Below n w (w.alloc (BX 2 s)) := hb0.mono hrf.hn
  have hbx : (w.alloc (BX 2 s)).heap[w.heap.size]? = some (BX 2 s) := heap_alloc_new _ _
  obtain ⟨W, hW⟩ : ∃ W, w.alloc (BX 2 s) = W := ⟨_, rfl⟩
  have HW : Hid (w.alloc (BX 2 s) = W) := hW
  rw [hW] at hh hrr hbb hbx
  obtain ⟨X, hX⟩ : ∃ X, w.heap.size = X := ⟨_, rfl⟩
  have HXX : Hid (w.heap.size = X) := hX
  rw [hX] at hbx
  have HH : Hid (Bo n W B cu cn A room cl U N) := hh
  have HRF : Hid (Rf n W A room cl (.slice p1 U.length c1) (.slice p2 N.length c2) U N) := hrr
  have HB0 : Hid (Below n w W) := hbb
  have HBX : Hid (W.heap[X]? = some (BX 2 s)) := hbx
  have HLO : Hid (n ≤ B ∧ n ≤ cu ∧ n ≤ cn) := h.lo
  have HRR : Hid (room ≤ 256 ∧ U.length ≤ room ∧ N.length ≤ room) := ⟨hr, h.lu, h.ln⟩
  obtain ⟨x0, x1⟩ := bx_of hbx
  obtain ⟨xw0, xw1⟩ := bx_of (heap_alloc_new w (BX 2 s))
  rw [hX] at xw0 xw1
  clear hb0 h hrf hh hrr hbb hbx hX hW
  have HLU : Hid (U.tail.length ≤ room ∧ (tkN U N).length ≤ room) := ⟨by have := HRR.out.2.1; rw [List.length_tail]; omega, Nat.le_trans (tkN_len U N) HRR.out.2.2⟩
  go_enter Try.func9, Try.ntmps9
  go_wp2_with fail
  rw [HW.out]
  clear xw0 xw1 x0 x1
  refine (take_any B cu cn room cl U N _ HH.out.inb).mono ?_
  rintro e w1 ⟨rfl, hi1, ho1⟩
  have H1 : Hid (In w1 B cu cn room cl U.tail (tkN U N) ∧ Rf n w1 A room cl (.slice p1 U.length c1) (.slice p2 N.length c2) U N ∧ Below n w w1) := ⟨hi1, HRF.out.oth HH.out.inb ho1, ho1.below HB0.out HRF.out.hn HLO.out.1 HLO.out.2.1 HLO.out.2.2⟩
  clear hi1 ho1
  go_wp2_with fail
  refine (rtake_any n A room cl p1 c1 p2 c2 U N _ H1.out.2.1 (by have := HRR.out; omega) (by have := HRR.out; omega)).mono ?_
  rintro e w2 ⟨rfl, hr2, hk2⟩
  have H2 : Hid (Bo n w2 B cu cn A room cl U.tail (tkN U N) ∧ Below n w w2) := ⟨⟨H1.out.1.rk hk2, hr2, HLO.out, HLU.out.1, HLU.out.2⟩, H1.out.2.2.trans hk2.bel⟩
  clear hr2 hk2
  generalize tkS U N = y at *
  generalize tkB U = yb at *
  generalize tkE U N = ye at *
  have hyy : (y.toList == y.toList) = true := beq_self_eq_true _
  have hyb : (yb == yb) = true := beq_self_eq_true _
  have hye : (ye == ye) = true := beq_self_eq_true _
  go_wp2
  go_ret
  exact ⟨rfl, H2.out⟩
set_option maxRecDepth 100000 in
set_option maxHeartbeats 4000000 in
theorem does_drain (s : ByteArray) (n B cu cn A room : Nat) (cl : Bool) (U N : List ByteArray) (w : World) (h : Bo n w B cu cn A room cl U N) (hr : room ≤ 256) : Calls Try.prog 9 #[.pointer (some ⟨B, 0, none⟩), .pointer (some ⟨A, 0, none⟩), .agg #[.int .i64 3, .string s]] w fun e w' => e = .returned (.bool true) ∧ Bo n w' B cu cn A room cl [] [] ∧ Below n w w' := by
  obtain ⟨p1, c1, p2, c2, hrf⟩ := h.rf
  have hb0 := below_alloc w (BX 3 s)
  have hh := h.up hb0
  have hrr := hrf.up hb0
  have hbb : Below n w (w.alloc (BX 3 s)) := hb0.mono hrf.hn
  have hbx : (w.alloc (BX 3 s)).heap[w.heap.size]? = some (BX 3 s) := heap_alloc_new _ _
  obtain ⟨W, hW⟩ : ∃ W, w.alloc (BX 3 s) = W := ⟨_, rfl⟩
  have HW : Hid (w.alloc (BX 3 s) = W) := hW
  rw [hW] at hh hrr hbb hbx
  obtain ⟨X, hX⟩ : ∃ X, w.heap.size = X := ⟨_, rfl⟩
  have HXX : Hid (w.heap.size = X) := hX
  rw [hX] at hbx
  have HH : Hid (Bo n W B cu cn A room cl U N) := hh
  have HRF : Hid (Rf n W A room cl (.slice p1 U.length c1) (.slice p2 N.length c2) U N) := hrr
  have HB0 : Hid (Below n w W) := hbb
  have HBX : Hid (W.heap[X]? = some (BX 3 s)) := hbx
  have HLO : Hid (n ≤ B ∧ n ≤ cu ∧ n ≤ cn) := h.lo
  have HRR : Hid (room ≤ 256 ∧ U.length ≤ room ∧ N.length ≤ room) := ⟨hr, h.lu, h.ln⟩
  obtain ⟨x0, x1⟩ := bx_of hbx
  obtain ⟨xw0, xw1⟩ := bx_of (heap_alloc_new w (BX 3 s))
  rw [hX] at xw0 xw1
  clear hb0 h hrf hh hrr hbb hbx hX hW
  go_enter Try.func9, Try.ntmps9
  go_wp2_with fail
  rw [HW.out]
  clear xw0 xw1 x0 x1
  refine (drain_any B cu cn room cl U N _ HH.out.inb (by have := HRR.out; omega)).mono ?_
  rintro e w1 ⟨pq, nq, cq, rfl, hrow, hi1, ho1⟩
  have H1 : Hid (In w1 B cu cn room cl [] [] ∧ Rf n w1 A room cl (.slice p1 U.length c1) (.slice p2 N.length c2) U N ∧ Below n w w1) := ⟨hi1, HRF.out.oth HH.out.inb ho1, ho1.below HB0.out HRF.out.hn HLO.out.1 HLO.out.2.1 HLO.out.2.2⟩
  have HROW : Hid (Row ES w1 W.heap.size 9 (.slice pq nq cq) (U ++ N)) := hrow
  clear hi1 ho1 hrow
  go_wp2_with fail
  refine (rdrain_any n A room cl p1 c1 p2 c2 U N _ H1.out.2.1 (by have := HRR.out; omega) (by have := HRR.out; omega)).mono ?_
  rintro e w2 ⟨v, rfl, hat, hr2, hk2, hlow⟩
  have H2 : Hid (Bo n w2 B cu cn A room cl [] [] ∧ Below n w w2) := ⟨⟨H1.out.1.rk hk2, ⟨_, _, _, _, hr2⟩, HLO.out, Nat.zero_le _, Nat.zero_le _⟩, H1.out.2.2.trans hk2.bel⟩
  have HA1 : Hid (AtW ES w2 (.slice pq nq cq) (U ++ N)) := by
    have hr := HROW.out
    rcases hr with ⟨e1, e2⟩ | ⟨g, cap, cur, e, hB, hh, q1, q2, q3, q4⟩
    · rw [e1, e2]; exact .inl ⟨_, _, rfl, rfl⟩
    · refine (Row.at (E := ES) (B := W.heap.size) (e := 9) (.inr ⟨g, cap, cur, e, hB, ?_, q1, q2, q3, q4⟩)).imp fun _ _ _ => trivial
      exact (hlow g (Array.getElem?_eq_some_iff.1 hh).1 (fun e => by subst e; rw [H1.out.2.1.bx] at hh; simp at hh)).trans hh
  obtain ⟨a2, cc2, rfl, -, -⟩ := hat.open
  have HA2 : Hid (AtW ES w2 (.slice a2 (U ++ N).length cc2) (U ++ N)) := hat
  clear hat hr2 hk2 hlow
  generalize (U ++ N).length = m2 at *
  go_wp2_with fail
  refine (texts_same _ _ (U ++ N) _ HA1.out HA2.out).mono ?_
  rintro e w3 ⟨rfl, hb3⟩
  have H3 : Hid (Bo n w3 B cu cn A room cl [] [] ∧ Below n w w3) := ⟨H2.out.1.up hb3, H2.out.2.trans (hb3.mono (let ⟨_, _, _, _, hq⟩ := H2.out.1.rf; hq.hn))⟩
  clear hb3
  go_wp2
  go_ret
  exact ⟨rfl, H3.out⟩
set_option maxRecDepth 100000 in
set_option maxHeartbeats 4000000 in
theorem does_close (s : ByteArray) (n B cu cn A room : Nat) (cl : Bool) (U N : List ByteArray) (w : World) (h : Bo n w B cu cn A room cl U N) (hr : room ≤ 256) : Calls Try.prog 9 #[.pointer (some ⟨B, 0, none⟩), .pointer (some ⟨A, 0, none⟩), .agg #[.int .i64 4, .string s]] w fun e w' => e = .returned (.bool true) ∧ Bo n w' B cu cn A room true U N ∧ Below n w w' := by
  obtain ⟨p1, c1, p2, c2, hrf⟩ := h.rf
  have hb0 := below_alloc w (BX 4 s)
  have hh := h.up hb0
  have hrr := hrf.up hb0
  have hbb : Below n w (w.alloc (BX 4 s)) := hb0.mono hrf.hn
  have hbx : (w.alloc (BX 4 s)).heap[w.heap.size]? = some (BX 4 s) := heap_alloc_new _ _
  obtain ⟨W, hW⟩ : ∃ W, w.alloc (BX 4 s) = W := ⟨_, rfl⟩
  have HW : Hid (w.alloc (BX 4 s) = W) := hW
  rw [hW] at hh hrr hbb hbx
  obtain ⟨X, hX⟩ : ∃ X, w.heap.size = X := ⟨_, rfl⟩
  have HXX : Hid (w.heap.size = X) := hX
  rw [hX] at hbx
  have HH : Hid (Bo n W B cu cn A room cl U N) := hh
  have HRF : Hid (Rf n W A room cl (.slice p1 U.length c1) (.slice p2 N.length c2) U N) := hrr
  have HB0 : Hid (Below n w W) := hbb
  have HBX : Hid (W.heap[X]? = some (BX 4 s)) := hbx
  have HLO : Hid (n ≤ B ∧ n ≤ cu ∧ n ≤ cn) := h.lo
  have HRR : Hid (room ≤ 256 ∧ U.length ≤ room ∧ N.length ≤ room) := ⟨hr, h.lu, h.ln⟩
  obtain ⟨x0, x1⟩ := bx_of hbx
  obtain ⟨xw0, xw1⟩ := bx_of (heap_alloc_new w (BX 4 s))
  rw [hX] at xw0 xw1
  clear hb0 h hrf hh hrr hbb hbx hX hW
  go_enter Try.func9, Try.ntmps9
  go_wp2_with fail
  rw [HW.out]
  clear xw0 xw1 x0 x1
  refine (close_any B cu cn room cl U N _ HH.out.inb).mono ?_
  rintro e w1 ⟨rfl, hi1, ho1⟩
  have hrf1 := HRF.out.oth HH.out.inb ho1
  have hb1 : Below n w w1 := ho1.below HB0.out HRF.out.hn HLO.out.1 HLO.out.2.1 HLO.out.2.2
  have hst := Rf.set (cl' := true) hrf1.bx hrf1.lo hrf1.hn hrf1.tw 3 (.bool true) rfl
  have H2 : Hid (Bo n (w1.setCell ⟨A, 3, none⟩ (.bool true)) B cu cn A room true U N ∧ Below n w (w1.setCell ⟨A, 3, none⟩ (.bool true))) := ⟨⟨hi1.rk hst.2, ⟨_, _, _, _, hst.1⟩, HLO.out, HRR.out.2.1, HRR.out.2.2⟩, hb1.trans hst.2.bel⟩
  obtain ⟨q0, q1, q2, q3⟩ := hrf1.cells
  have z3 := fr_at hrf1.bx 3
  clear hi1 ho1 hrf1 hb1 hst
  go_wp2
  go_ret
  exact ⟨rfl, H2.out⟩
set_option maxRecDepth 100000 in
set_option maxHeartbeats 4000000 in
theorem does_look (t : Int) (h0 : t ≠ 0) (h1 : t ≠ 1) (h2 : t ≠ 2) (h3 : t ≠ 3) (h4 : t ≠ 4) (s : ByteArray) (n B cu cn A room : Nat) (cl : Bool) (U N : List ByteArray) (w : World) (h : Bo n w B cu cn A room cl U N) (hr : room ≤ 256) : Calls Try.prog 9 #[.pointer (some ⟨B, 0, none⟩), .pointer (some ⟨A, 0, none⟩), .agg #[.int .i64 t, .string s]] w fun e w' => e = .returned (.bool true) ∧ Bo n w' B cu cn A room cl U N ∧ Below n w w' := by
  obtain ⟨p1, c1, p2, c2, hrf⟩ := h.rf
  have hb0 := below_alloc w (BX t s)
  have hh := h.up hb0
  have hrr := hrf.up hb0
  have hbb : Below n w (w.alloc (BX t s)) := hb0.mono hrf.hn
  have hbx : (w.alloc (BX t s)).heap[w.heap.size]? = some (BX t s) := heap_alloc_new _ _
  obtain ⟨W, hW⟩ : ∃ W, w.alloc (BX t s) = W := ⟨_, rfl⟩
  have HW : Hid (w.alloc (BX t s) = W) := hW
  rw [hW] at hh hrr hbb hbx
  obtain ⟨X, hX⟩ : ∃ X, w.heap.size = X := ⟨_, rfl⟩
  have HXX : Hid (w.heap.size = X) := hX
  rw [hX] at hbx
  have HH : Hid (Bo n W B cu cn A room cl U N) := hh
  have HRF : Hid (Rf n W A room cl (.slice p1 U.length c1) (.slice p2 N.length c2) U N) := hrr
  have HB0 : Hid (Below n w W) := hbb
  have HBX : Hid (W.heap[X]? = some (BX t s)) := hbx
  have HLO : Hid (n ≤ B ∧ n ≤ cu ∧ n ≤ cn) := h.lo
  have HRR : Hid (room ≤ 256 ∧ U.length ≤ room ∧ N.length ≤ room) := ⟨hr, h.lu, h.ln⟩
  obtain ⟨x0, x1⟩ := bx_of hbx
  obtain ⟨xw0, xw1⟩ := bx_of (heap_alloc_new w (BX t s))
  rw [hX] at xw0 xw1
  clear hb0 h hrf hh hrr hbb hbx hX hW
  have k0 : (t == 0) = false := by simpa using h0
  have k1 : (t == 1) = false := by simpa using h1
  have k2 : (t == 2) = false := by simpa using h2
  have k3 : (t == 3) = false := by simpa using h3
  have k4 : (t == 4) = false := by simpa using h4
  clear h0 h1 h2 h3 h4
  go_enter Try.func9, Try.ntmps9
  go_wp2
  go_ret
  rw [HW.out]
  exact ⟨rfl, HH.out, HB0.out⟩
end Go.Proofs.Ytocainggkdmojaa
