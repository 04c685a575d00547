/-
  The texts Shelf, SSo, Pth0, Pth, Pth1, Same, Lw0, SStp, Ltl0, Ltl, as one.
-/
import Derived.Shelf.SortM.Plain
import Derived.Test.YtacghcoikekfeaaProg
import Derived.Lib.RowBridge
import Derived.Lib.SortBridge
import Derived.Test.YtacghcoikekfeaaM10
/- Shelf -/
namespace Go.Proofs.Ytacghcoikekfeaa
open Go.Shelf
def Lay.sortL_ren : Go.Shelf.Ren := ⟨fun | 6 => 21 | 8 => 40 | 9 => 39 | 19 => 68 | 20 => 69 | 21 => 59 | 22 => 60 | 23 => 61 | 24 => 62 | 25 => 63 | 26 => 64 | 27 => 65 | 28 => 66 | 29 => 67 | 36 => 84 | 31 => 85 | 32 => 86 | 37 => 87 | 38 => 88 | 39 => 89 | 41 => 98 | n => n, fun | 27 => 35 | 29 => 9 | 3 => 3 | 32 => 80 | 26 => 35 | 0 => 0 | 44 => 115 | 46 => 117 | 4 => 4 | 36 => 107 | 35 => 106 | 41 => 112 | 5 => 5 | 9 => 9 | 53 => 132 | 57 => 136 | 63 => 150 | 64 => 151 | n => n, fun | n => n⟩
theorem Lay.sortL : Go.Proofs.SlLaysM.n6 Try.prog Lay.sortL_ren := {
  mixed := by kernel_rfl
  f6 := ⟨Try.f21.name, by decide, Try.func21.trans (congrArg some (by kernel_rfl))⟩
  f8 := Try.func40.trans (congrArg some (by kernel_rfl))
  f9 := ⟨Try.f39.name, by decide, Try.func39.trans (congrArg some (by kernel_rfl))⟩
  f19 := Try.func68.trans (congrArg some (by kernel_rfl))
  f20 := Try.func69.trans (congrArg some (by kernel_rfl))
  f21 := ⟨Try.f59.name, by decide, Try.func59.trans (congrArg some (by kernel_rfl))⟩
  f22 := ⟨Try.f60.name, by decide, Try.func60.trans (congrArg some (by kernel_rfl))⟩
  f23 := ⟨Try.f61.name, by decide, Try.func61.trans (congrArg some (by kernel_rfl))⟩
  f24 := ⟨Try.f62.name, by decide, Try.func62.trans (congrArg some (by kernel_rfl))⟩
  f25 := ⟨Try.f63.name, by decide, Try.func63.trans (congrArg some (by kernel_rfl))⟩
  f26 := ⟨Try.f64.name, by decide, Try.func64.trans (congrArg some (by kernel_rfl))⟩
  f27 := ⟨Try.f65.name, by decide, Try.func65.trans (congrArg some (by kernel_rfl))⟩
  f28 := ⟨Try.f66.name, by decide, Try.func66.trans (congrArg some (by kernel_rfl))⟩
  f29 := ⟨Try.f67.name, by decide, Try.func67.trans (congrArg some (by kernel_rfl))⟩
  f31 := Try.func85.trans (congrArg some (by kernel_rfl))
  f32 := Try.func86.trans (congrArg some (by kernel_rfl))
  f36 := ⟨Try.f84.name, by decide, Try.func84.trans (congrArg some (by kernel_rfl))⟩
  f37 := ⟨Try.f87.name, by decide, Try.func87.trans (congrArg some (by kernel_rfl))⟩
  f38 := ⟨Try.f88.name, by decide, Try.func88.trans (congrArg some (by kernel_rfl))⟩
  f39 := ⟨Try.f89.name, by decide, Try.func89.trans (congrArg some (by kernel_rfl))⟩
  f41 := ⟨Try.f98.name, by decide, Try.func98.trans (congrArg some (by kernel_rfl))⟩
  t0 := Try.underlying0
  a0 := Try.isAgg0
  z0 := Try.sizeOf0
  v0 := Try.zeroValue0
  t3 := Try.underlying3
  a3 := Try.isAgg3
  z3 := Try.sizeOf3
  v3 := Try.zeroValue3
  t4 := Try.underlying4
  a4 := Try.isAgg4
  z4 := Try.sizeOf4
  v4 := Try.zeroValue4
  t5 := Try.underlying5
  a5 := Try.isAgg5
  z5 := Try.sizeOf5
  v5 := Try.zeroValue5
  t9 := Try.underlying9
  a9 := Try.isAgg9
  z9 := Try.sizeOf9
  v9 := Try.zeroValue9
  t26 := Try.underlying35
  a26 := Try.isAgg35
  z26 := Try.sizeOf35
  v26 := Try.zeroValue35
  t27 := Try.underlying35
  a27 := Try.isAgg35
  z27 := Try.sizeOf35
  v27 := Try.zeroValue35
  t29 := Try.underlying9
  a29 := Try.isAgg9
  z29 := Try.sizeOf9
  v29 := Try.zeroValue9
  t32 := Try.underlying80
  a32 := Try.isAgg80
  z32 := Try.sizeOf80
  v32 := Try.zeroValue80
  t35 := Try.underlying106
  a35 := Try.isAgg106
  z35 := Try.sizeOf106
  v35 := Try.zeroValue106
  t36 := Try.underlying107
  a36 := Try.isAgg107
  z36 := Try.sizeOf107
  v36 := Try.zeroValue107
  t41 := Try.underlying112
  a41 := Try.isAgg112
  z41 := Try.sizeOf112
  v41 := Try.zeroValue112
  t44 := Try.underlying115
  a44 := Try.isAgg115
  z44 := Try.sizeOf115
  v44 := Try.zeroValue115
  t46 := Try.underlying117
  a46 := Try.isAgg117
  z46 := Try.sizeOf117
  v46 := Try.zeroValue117
  t53 := Try.underlying132
  a53 := Try.isAgg132
  z53 := Try.sizeOf132
  v53 := Try.zeroValue132
  t57 := Try.underlying136
  a57 := Try.isAgg136
  z57 := Try.sizeOf136
  v57 := Try.zeroValue136
  t63 := Try.underlying150
  a63 := Try.isAgg150
  z63 := Try.sizeOf150
  v63 := Try.zeroValue150
  t64 := Try.underlying151
  a64 := Try.isAgg151
  z64 := Try.sizeOf151
  v64 := Try.zeroValue151 }
end Go.Proofs.Ytacghcoikekfeaa
/- SSo -/
namespace Go.Proofs.Ytacghcoikekfeaa
open Go.RowKit Go.Shelf Go.Sort Go.Lib Go.Deep It
set_option maxRecDepth 100000
section
variable {α : Type} [Inhabited α] {enc : α → Value}
/-- The world behind a sort. -/
def sortW (enc : α → Value) (w : World) (g n : Nat) (d : Array α) (os : Array Obj) : World := grow (putRow enc (Sort.ahead w n) g 0 d) os
theorem holds_of_row {w : World} {g : Nat} {cur : Array Value} {e : TypeId} {ss : List α} (hb : w.heap[g]? = some (.cells cur e (0, 0))) (ht : cur.toList.take ss.length = ss.map enc) : Holds enc w g 0 ss.toArray := by
  intro j hj
  have hj' : j < ss.length := by simpa using hj
  refine ⟨?_, by simp [World.frozen?, hb]⟩
  have h1 : (cur.toList.take ss.length)[j]? = (ss.map enc)[j]? := by rw [ht]
  rw [List.getElem?_take_of_lt hj'] at h1
  simp only [World.cell?, hb, Nat.zero_add]
  simp only [Option.isSome_none, Bool.false_eq_true, if_false]
  rw [← Array.getElem?_toList, h1]
  simp [hj']
theorem sorted_heap {w : World} {g n : Nat} {os : Array Obj} {cur : Array Value} {e : TypeId} {fr : Nat × Nat} (d : Array α) (hb : w.heap[g]? = some (.cells cur e fr)) :
    (sortW enc w g n d os).heap[g]? = some (.cells (putCells enc 0 d cur) e fr) := by
  have hg : g < w.heap.size := (Array.getElem?_eq_some_iff.1 hb).1
  unfold sortW
  rw [heap_grow_old _ _ (by simpa using hg)]
  simp [putRow, mapBlock, Sort.ahead, Array.getElem?_modify, hb, onCells]
theorem sorted_grown {w : World} {g n : Nat} {os : Array Obj} (d : Array α) : w.grownBy (sortW enc w g n d os) (some g) := by
  unfold sortW
  refine ⟨rfl, rfl, rfl, by simp, fun k hk hne => ?_⟩
  rw [heap_grow_old _ _ (by simpa using hk)]
  have : g ≠ k := fun e => hne (by rw [e])
  simp [putRow, mapBlock, Sort.ahead, Array.getElem?_modify, this]
theorem put_take (cur : Array Value) (ts : List α) (h : ts.length ≤ cur.size) : (putCells enc 0 ts.toArray cur).toList.take ts.length = ts.map enc := by
  apply List.ext_getElem?
  intro j
  by_cases hj : j < ts.length
  · rw [List.getElem?_take_of_lt hj, Array.getElem?_toList]
    simp [putCells, hj, show j < cur.size by omega]
  · rw [List.getElem?_take_eq_none (by omega), List.getElem?_eq_none (by simp; omega)]
end
/-- Texts, sorted. -/
def Sp.sortT (l : List ByteArray) : List ByteArray := ((l.map fun s => s.data.toList).mergeSort fun x y => decide (x ≤ y)).map fun x => ⟨x.toArray⟩
theorem flatT : ∀ l : List ByteArray, ETx.flat l = l.map Value.string
  | [] => rfl
  | x :: l => by
    have e : ETx.flat (x :: l) = .string x :: ETx.flat l := by simp [Enc.flat, ETx]
    rw [e, flatT l]
    rfl
theorem sort_row (g cap n : Nat) (l : List ByteArray) (w : World) (B : Nat) (h : Row ETx w B 9 (.slice (some ⟨g, 0, none⟩) n cap) l) (hm : l.length ≤ 100000) :
    Calls Try.prog 21 #[.slice (some ⟨g, 0, none⟩) n cap] w fun e w' => e = .returned (.tuple #[]) ∧ Row ETx w' B 9 (.slice (some ⟨g, 0, none⟩) n cap) (Sp.sortT l) ∧ w.grownBy w' (some g) := by
  rcases h with ⟨hv, _⟩ | ⟨g', cap', cur, hv, hbg, hg, hnc, hcm, hcs, htake⟩
  · cases hv
  · simp only [Value.slice.injEq, Option.some.injEq, Addr.mk.injEq, and_true] at hv
    obtain ⟨rfl, rfl, rfl⟩ := hv
    have hsz : ETx.sz = 1 := rfl
    rw [hsz, Nat.mul_one, flatT] at htake
    rw [hsz, Nat.mul_one] at hcs
    have hmap : l.map Value.string = (l.map fun s => s.data.toList).map encStr := by
      rw [List.map_map]
      refine List.map_congr_left fun s _ => ?_
      simp [encStr]
    have h2 := AnyM.slices_Sort_string Lay.sortL g 0 cap (l.map fun s => s.data.toList) w (holds_of_row hg (by rw [List.length_map, htake, hmap])) (Array.getElem?_eq_some_iff.1 hg).1 (by rw [List.length_map]; omega)
    rw [List.length_map] at h2
    refine Calls.mono h2 ?_
    rintro e w' ⟨he, n, os, rfl⟩
    rw [show grow (putRow encStr (Sort.ahead w n) g 0 ((l.map fun s => s.data.toList).mergeSort fun x y => decide (x ≤ y)).toArray) os = sortW encStr w g n ((l.map fun s => s.data.toList).mergeSort fun x y => decide (x ≤ y)).toArray os from rfl]
    refine ⟨he, ?_, sorted_grown _⟩
    have hlen : (Sp.sortT l).length = l.length := by simp [Sp.sortT, List.length_mergeSort]
    refine .inr ⟨g, cap, _, by rw [hlen], hbg, sorted_heap _ hg, by rw [hlen]; exact hnc, hcm, by rw [hsz, Nat.mul_one]; simpa [putCells] using hcs, ?_⟩
    rw [hsz, Nat.mul_one, flatT]
    have h3 := put_take (enc := encStr) cur ((l.map fun s => s.data.toList).mergeSort fun x y => decide (x ≤ y)) (by rw [List.length_mergeSort, List.length_map]; omega)
    rw [hlen]
    rw [List.length_mergeSort, List.length_map] at h3
    rw [h3]
    unfold Sp.sortT
    rw [List.map_map]
    rfl
end Go.Proofs.Ytacghcoikekfeaa
/- Pth0 -/
namespace Go.Proofs.Ytacghcoikekfeaa
open Go.ChangeShapes Go.WideShapes Go.ChangeAt Go.RowKit Go.Deep Go.Shelf It
set_option maxRecDepth 100000
section
variable {α : Type} {P : Program} (w : World)
theorem wpListIn_row {F : Fence} {n : Nat} {ops : Array Oper} {rest : List Oper} {o : Oper} {a : Act} {Q : Exit → Act → World → Prop} (hgd : o.guard = none) (s x : Operand) (t : TypeId)
    (ho : o.op = .call { callee := .builtin .append, args := #[s, x], argTypes := #[t, t] }) (E : Enc α) (S : Nat → Prop)
    (B : Nat) (e : TypeId) (i : TypeInfo) (z : Value) (bytes : Nat) (ht : P.underlying t = some (.slice e)) (hi : P.info? e = some i) (hz : i.zero = some z) (hsize : i.size = E.sz) (hby : i.bytes = bytes) (hzs : z.cells.size = E.sz)
    (v : Value) (ls : List α) (hv : a.eval s = v) (hrow : Row E w B e v ls) (xv : Value) (xs : List α) (hxv : a.eval x = xv) (hx : At E S w xv xs) (h63 : ls.length + xs.length ≤ maxLen) (hbytes : (ls.length + xs.length + (ls.length + xs.length) / 4 + 192) * bytes ≤ 281474976710656) (hbase : B ≤ w.heap.size)
    (h : ∀ v' w', Row E w' B e v' (ls ++ xs) → w.grownBy w' v.ownBlock → (v'.ownBlock = v.ownBlock ∨ ∀ j, v'.ownBlock = some j → w.heap.size ≤ j) → wpListIn F n P ops Q rest (a.put o.dst v') w') : wpListIn F n P ops Q (o :: rest) a w := by
  refine wpListIn_plain hgd fun K hK' => ?_
  obtain ⟨v', w', hr, h2, h3, h4⟩ := Row.append_run (P := P) w E S B t o.type e i z bytes ht hi hz hsize hby hzs v ls hrow xv xs hx h63 hbytes hbase
  unfold Oper.wpIn
  refine ⟨?_, ?_⟩
  · simp [Oper.about, ho, resolve, Target.leads, Sem.run_pure]
  · rw [Oper.semAt_plain F _ _ (by rw [ho]; intro c hc'; cases hc')]
    simp [execOp, ho, resolve, invoke, builtin, hv, hxv, hr, Result.andThen]
    exact hK' _ _ (h v' w' h2 h3 h4)
end
theorem row_other {w : World} {B : Nat} {u v : Value} {l : List ByteArray} (h : Row ETx w B 9 u l) {Bx o : Nat} (hn : ∀ k, u.ownBlock = some k → k ≠ Bx) : Row ETx (w.setCell ⟨Bx, o, none⟩ v) B 9 u l := by
  rcases h with h | ⟨g, cap, cur, hu, hB, hh, h1⟩
  · exact .inl h
  · exact .inr ⟨g, cap, cur, hu, hB, (Below.heap_setCell _ _ _ _ (by have := hn g (by rw [hu]; rfl); simpa using this)).trans hh, h1⟩
theorem row_block {w : World} {B : Nat} {u : Value} {l : List ByteArray} (h : Row ETx w B 9 u l) {k : Nat} (hk : u.ownBlock = some k) : ∃ cur, w.heap[k]? = some (.cells cur 9 (0, 0)) := by
  rcases h with ⟨rfl, _⟩ | ⟨g, cap, cur, rfl, hB, hh, h1⟩
  · cases hk
  · have : g = k := by simpa [Value.ownBlock] using hk
    subst this
    exact ⟨cur, hh⟩
theorem row_box {w : World} {B Bx : Nat} {u x : Value} {l : List ByteArray} (h : Row ETx w B 9 u l) (hb : Boxed w Bx 35 x) : ∀ k, u.ownBlock = some k → k ≠ Bx := by
  rintro k hk rfl
  obtain ⟨cur, hc⟩ := row_block h hk
  have hb' : w.heap[k]? = some (.cells #[x] 35 (0, 0)) := hb
  rw [hc] at hb'
  simp at hb'
/-- One more text, and the box has the new list. -/
theorem kp_app {V w' : World} {Bx B : Nat} {u u' : Value} {l l' : List ByteArray} (h : Boxed V Bx 35 u) (hr : Row ETx V B 9 u l) (hg : V.grownBy w' u.ownBlock) (hr' : Row ETx w' B 9 u' l') (hloc : u'.ownBlock = u.ownBlock ∨ ∀ j, u'.ownBlock = some j → V.heap.size ≤ j) :
    Kp Bx V (w'.setCell ⟨Bx, 0, none⟩ u') ∧ Boxed (w'.setCell ⟨Bx, 0, none⟩ u') Bx 35 u' ∧ Row ETx (w'.setCell ⟨Bx, 0, none⟩ u') B 9 u' l' := by
  have hne := row_box hr h
  have hbw : Boxed w' Bx 35 u := (hg.block Bx h.lt (fun e => hne Bx e.symm rfl)).trans h
  have hb2 : Boxed (w'.setCell ⟨Bx, 0, none⟩ u') Bx 35 u' := hbw.set u'
  have hgs := grownBy_setCell' w' Bx u'
  refine ⟨⟨hgs.os.trans hg.os, hgs.tape.trans hg.tape, hgs.output.trans hg.output, Nat.le_trans hg.size hgs.size, fun _ => ⟨u', hb2.cell, fun k e => Nat.lt_of_lt_of_le (hr'.lt k e).2 hgs.size⟩, fun k hk hn => ?_, fun k hk hm => ?_, fun k o hk ho => ?_⟩, hb2, row_other hr' (row_box hr' hbw)⟩
  · have h1 : w'.heap[k]? = V.heap[k]? := hg.block k hk (fun e => hn (.inr ⟨u, h.cell, e.symm⟩))
    exact (hgs.block k (Nat.lt_of_lt_of_le hk hg.size) (fun e => hn (.inl (by cases e; rfl)))).trans h1
  · rcases hm with rfl | ⟨x, hx, he⟩
    · exact .inl rfl
    · rw [hb2.cell] at hx
      cases hx
      rcases hloc with hl | hl
      · exact .inr ⟨u, h.cell, by rw [← hl]; exact he⟩
      · have := hl k he
        omega
  · have h1 : w'.heap[k]? = V.heap[k]? := hg.block k (Array.getElem?_eq_some_iff.1 hk).1 (fun e => by
      obtain ⟨cur, hc⟩ := row_block hr e.symm
      rw [hk] at hc
      cases hc
      simp [Obj.isCells] at ho)
    exact (KeepsOthers.setCell w' _ _).same k o (h1.trans hk) ho
theorem Sp.walk_bd {L : List Ino} : ∀ (f no : Nat) (path : ByteArray) (z : Nat × ByteArray), Sp.deep L f no → z ∈ Sp.walk L f no path → z.1 < L.length ∧ z.2.size + 33 ≤ path.size + 33 * f
  | 0, _, _, _, h, _ => h.elim
  | f + 1, no, path, z, h, hz => by
    rw [Sp.walk_succ] at hz
    rcases List.mem_cons.1 hz with rfl | hz
    · exact ⟨h.1, by simp only; omega⟩
    · obtain ⟨e, he, hze⟩ := List.mem_flatMap.1 hz
      obtain ⟨hd, hzw⟩ := Sp.mem_step hze
      obtain ⟨⟨-, -, hs⟩, h2⟩ := h.2 e he
      obtain ⟨h3, h4⟩ := Sp.walk_bd f _ _ z (h2 hd) hzw
      rw [Sp.way_size] at h4
      exact ⟨h3, by omega⟩
end Go.Proofs.Ytacghcoikekfeaa
/- Pth -/
namespace Go.Proofs.Ytacghcoikekfeaa
open Go.ChangeShapes Go.WideShapes Go.ChangeAt Go.RowKit Go.Deep Go.Shelf It
set_option maxRecDepth 100000
attribute [local go_sem] Oper.semAt_some
/-- The paths, as the program has them. -/
noncomputable def Sp.pathsC (L : List Ino) : List ByteArray := if Sp.isSp L = true then Sp.sortT (⟨#[47]⟩ :: (Sp.walk L 24 0 ⟨#[]⟩).flatMap (Sp.ways L)) else []
theorem row_own {A B' : World} {B : Nat} {u : Value} {l : List ByteArray} {row : Option Nat} (h : Row ETx A B 9 u l) (hg : A.grownBy B' row) (hr : ∀ r, row = some r → ∃ o : Obj, A.heap[r]? = some o ∧ o.isCells = false) : Row ETx B' B 9 u l := by
  rcases h with h | ⟨g, cap, cur, hu, hB, hh, h1⟩
  · exact .inl h
  · refine .inr ⟨g, cap, cur, hu, hB, (hg.block g (Array.getElem?_eq_some_iff.1 hh).1 (fun e => ?_)).trans hh, h1⟩
    obtain ⟨o, ho, hc⟩ := hr g e.symm
    rw [hh] at ho
    cases ho
    simp [Obj.isCells] at hc
theorem boxed_keep {A B' : World} {X : Nat} {t : TypeId} {u : Value} {row : Option Nat} (h : Boxed A X t u) (hg : A.grownBy B' row) (hr : ∀ r, row = some r → ∃ o : Obj, A.heap[r]? = some o ∧ o.isCells = false) : Boxed B' X t u := by
  refine (hg.block X h.lt (fun e => ?_)).trans h
  obtain ⟨o, ho, hc⟩ := hr X e.symm
  have h' : A.heap[X]? = some (.cells #[u] t (0, 0)) := h
  rw [h'] at ho
  cases ho
  simp [Obj.isCells] at hc
set_option maxRecDepth 100000 in
set_option maxHeartbeats 4000000 in
theorem paths_any {S : Nat → Prop} (v : Value) (L : List Rw) (w : World) (hv : TabAt S w v L) (hok : Sp.okN L) :
    Calls Try.prog 7 #[v] w fun e w' => ∃ u, e = .returned u ∧ AtW ETx w' u (Sp.pathsC (pl L)) ∧ Below w.heap.size w w' := by
  obtain ⟨j0, hji, hy0, hy1, hy2⟩ := info_parts infoT
  obtain ⟨ao, cap, rfl, -, -⟩ := hv.open
  obtain ⟨n, hn⟩ : ∃ n, L.length = n := ⟨_, rfl⟩
  have HN : Hid (L.length = n) := hn
  rw [hn] at hv ⊢
  have HV : Hid (TabAt S w (.slice ao n cap) L) := hv
  have HVL : Hid (TabAt (fun b => b < w.heap.size) w (.slice ao n cap) L) := tab_low hv
  have HOK : Hid (Sp.okN L) := hok
  obtain ⟨W0, hW0⟩ : ∃ W0, W0 = w.alloc (.cells #[.slice ao n cap] 27) := ⟨_, rfl⟩
  have hg0 : w.grownBy W0 none := by rw [hW0]; exact World.grownBy_alloc _ _ none
  have HX0 : Hid (Boxed W0 w.heap.size 27 (.slice ao n cap)) := by show Boxed _ _ _ _; rw [hW0]; exact Boxed.new w _ _
  have HB0 : Hid (Below w.heap.size w W0) := below_none hg0 (Nat.le_refl _)
  cases hs : Sp.isSp (pl L) with
  | false =>
    have HC : Hid (Sp.chk Sp.isSp (pl L) = 4) := by show _ = _; unfold Sp.chk; rw [hs]; rfl
    have hP : Sp.pathsC (pl L) = [] := by unfold Sp.pathsC; rw [hs]; rfl
    rw [hP]
    clear hs hP hn hv hok hg0
    go_enter Try.func7, Try.ntmps7
    have c0 := HX0.out.cell
    go_wp2_with fail
    rw [← hW0]
    refine (scheck_any _ _ L _ (HV.out.up HB0.out) HOK.out).mono ?_
    rintro e w1 ⟨rfl, hb1⟩
    rw [HC.out]
    have HB1 : Hid (Below w.heap.size w w1) := HB0.out.trans (hb1.mono HB0.out.size)
    clear hb1 hW0 c0
    go_wp2
    go_ret
    exact ⟨_, rfl, nilT, HB1.out⟩
  | true =>
    have HC : Hid (Sp.chk Sp.isSp (pl L) = 0) := by show _ = _; unfold Sp.chk; rw [hs]; rfl
    have hP : Sp.pathsC (pl L) = Sp.sortT (⟨#[47]⟩ :: (Sp.walk (pl L) 24 0 ⟨#[]⟩).flatMap (Sp.ways (pl L))) := by unfold Sp.pathsC; rw [if_pos hs]
    rw [hP]
    have hr := (Sp.isSp_iff.1 hs).1
    have ht := Sp.isSp_tree hs
    have hn24 : n ≤ 24 := by rw [← hn]; have := (Sp.right_len hr).2; rw [List.length_map] at this; exact this
    have hd : Sp.deep (pl L) 24 0 := Sp.isSp_deep hs (by have := (Sp.right_len hr).1; omega)
    have HFEW : Hid (((Sp.walk (pl L) 24 0 ⟨#[]⟩).flatMap (Sp.ways (pl L))).length ≤ 36864) := Sp.ways_few hs
    have HBD : Hid (∀ z ∈ Sp.walk (pl L) 24 0 ⟨#[]⟩, z.1 < n ∧ z.2.size ≤ 800 ∧ ∀ e ∈ Sp.entsAt (pl L) z.1, e.1.size ≤ 32) := fun z hz => by
      obtain ⟨h1, h2⟩ := Sp.walk_bd _ _ _ z hd hz
      rw [List.length_map, hn] at h1
      have h0 : (⟨#[]⟩ : ByteArray).size = 0 := rfl
      exact ⟨h1, by omega, fun e he => (ht.inr z.1 e he).2.2.1⟩
    have HD : Hid (Sp.deep (pl L) 24 0) := hd
    obtain ⟨xs, hxs⟩ : ∃ xs, Sp.walk (pl L) 24 0 ⟨#[]⟩ = xs := ⟨_, rfl⟩
    have HXS : Hid (Sp.walk (pl L) 24 0 ⟨#[]⟩ = xs) := hxs
    rw [hxs] at HFEW HBD ⊢
    clear hxs hs hP hv hok hg0 hr ht hd hn
    refine (callsIn_wide (n := 9)).1 ?_
    refine callsIn_of_wp_marks Try.func7 rfl trivial ?_
    simp only [Try.ntmps7, List.size_toArray, List.length_cons, List.length_nil, Nat.reduceAdd, Nat.reduceSub, Array.replicate_succ, Array.replicate_zero, List.push_toArray, List.append_toArray, List.nil_append, List.cons_append]
    have c0 := HX0.out.cell
    gi_wp2
    rw [← hW0]
    refine ⟨trivial, ?_⟩
    refine CallsIn.mono (callsIn_wide.2 (scheck_any _ _ L _ (HV.out.up HB0.out) HOK.out)) ?_
    rintro e' w1 ⟨rfl, hb1⟩
    rw [HC.out]
    have HX1 : Hid (Boxed w1 w.heap.size 27 (.slice ao n cap)) := (hb1.block _ HX0.out.lt).trans HX0.out
    have HB1 : Hid (Below w.heap.size w w1) := HB0.out.trans (hb1.mono HB0.out.size)
    clear hb1 hW0 c0
    obtain ⟨G, hG⟩ : ∃ G, w1.heap.size = G := ⟨_, rfl⟩
    obtain ⟨W2, hW2⟩ : ∃ W2, W2 = (w1.alloc (.cells #[.string ⟨#[47]⟩] 9)).alloc (.cells #[.slice (some ⟨w1.heap.size, 0, none⟩) 1 1] 35) := ⟨_, rfl⟩
    have hg2 : w1.grownBy W2 none := by rw [hW2]; exact grown_trans (World.grownBy_alloc _ _ none) (World.grownBy_alloc _ _ none)
    have hs2 : W2.heap.size = G + 2 := by rw [hW2]; simp [hG]
    have hbx : Boxed W2 (G + 1) 35 (.slice (some ⟨G, 0, none⟩) 1 1) := by
      have := Boxed.new (w1.alloc (.cells #[.string ⟨#[47]⟩] 9)) 35 (.slice (some ⟨w1.heap.size, 0, none⟩) 1 1)
      rw [show (w1.alloc (.cells #[.string ⟨#[47]⟩] 9)).heap.size = w1.heap.size + 1 by simp] at this
      rw [hW2, ← hG]
      exact this
    have hrw : Row ETx W2 G 9 (.slice (some ⟨G, 0, none⟩) 1 1) [⟨#[47]⟩] := by
      refine row_oneT ?_
      rw [hW2, ← hG]
      exact (Below.heap_alloc _ _ _ (by simp)).trans (heap_alloc_new _ _)
    have hb2 : HasBox (G + 1) W2 := ⟨_, hbx.cell, fun k e => (hrw.lt k e).2⟩
    have hwG : w.heap.size < G := by have := HX1.out.lt; omega
    have hmine : ∀ k, k < G → ¬ Mine (G + 1) W2 k := fun k hk h => by
      rcases h with h | ⟨u, hu, he⟩
      · omega
      · rw [hbx.cell] at hu
        cases hu
        have : G = k := by simpa [Value.ownBlock] using he
        omega
    have hx2 : Boxed W2 w.heap.size 27 (.slice ao n cap) := (hg2.block _ HX1.out.lt (by simp)).trans HX1.out
    have htab2 : TabAt (fun b => b < w.heap.size) W2 (.slice ao n cap) L := tab_up (HVL.out.up HB1.out) hg2
    rw [← HN.out] at htab2
    obtain ⟨hseq, hg3, hs3, hk3, hb3⟩ := folders_seq (n₀ := w.heap.size) (Bx := G + 1) (f := 24) (no := 0) (path := ⟨#[]⟩) (V2 := W2) HD.out (by decide) (by rw [HN.out]; omega) (by omega) htab2 hb2 (fun b hb => hmine b (by omega))
    unfold box3 at hseq hg3 hs3 hk3 hb3
    rw [HN.out] at hseq hg3 hs3 hk3 hb3
    obtain ⟨V3, hV3⟩ : ∃ V3, V3 = ((W2.alloc (.cells #[.slice ao n cap] 27)).alloc (.cells #[.int .i64 ((0 : Nat) : Int)] 3)).alloc (.cells #[.string ⟨#[]⟩] 9) := ⟨_, rfl⟩
    rw [← hV3] at hseq hg3 hs3 hk3 hb3
    rw [show ((0 : Nat) : Int) = 0 from rfl] at hV3
    have HSEQ : Hid (SeqOwn Try.prog 38 #[PT (W2.heap.size + 1), PT (W2.heap.size + 1 + 1), PT W2.heap.size] encF (G + 1) (Sp.walk (pl L) 24 0 ⟨#[]⟩) V3) := hseq
    have HB3 : Hid (Below w.heap.size w V3) := HB1.out.trans ((below_none (grown_trans hg2 hg3) (Nat.le_refl _)).mono HB1.out.size)
    have HR3 : Hid (Row ETx V3 G 9 (.slice (some ⟨G, 0, none⟩) 1 1) [⟨#[47]⟩]) := hrw.up (below_none hg3 (Nat.le_refl _))
    have HO3 : Hid (Boxed V3 (G + 1) 35 (.slice (some ⟨G, 0, none⟩) 1 1)) := hbx.kept hg3 (by simp)
    have HX3 : Hid (Boxed V3 w.heap.size 27 (.slice ao n cap) ∧ ¬ Mine (G + 1) V3 w.heap.size) := ⟨hx2.kept hg3 (by simp), hk3.safe (hmine _ hwG) hx2.lt⟩
    have HS3 : Hid (G + 1 < V3.heap.size ∧ w.heap.size < G) := ⟨by omega, hwG⟩
    have c2 := hx2.cell
    rw [HXS.out] at HSEQ
    rw [hG] at hW2
    have c1 := HX1.out.cell
    clear hseq hg3 hk3 hbx hrw hb2 hmine hx2 htab2 hs2 hs3 hg2
    gi_wp2
    rw [← hW2]
    refine ⟨trivial, ?_⟩
    refine CallsIn.mono (callsIn_wide.2 (folders_any _ _ _ _ ⟨_, _, _, rfl⟩)) ?_
    rintro e' w' ⟨rfl, rfl⟩
    rw [← hV3]
    clear hV3 hW2 c1 c2
    gi_wp2
    refine range_law (gf := 38) (lb := #[PT (W2.heap.size + 1), PT (W2.heap.size + 1 + 1), PT W2.heap.size]) (encs := encF) (Bx := G + 1) (xs := xs) rfl (enters_of Try.func38 (by kernel_rfl) rfl) hb3 HSEQ.out (fun _ => rfl)
      (fun pre V => ∃ p q c, Boxed V (G + 1) 35 (.slice p q c) ∧ Row ETx V G 9 (.slice p q c) (⟨#[47]⟩ :: pre.flatMap (Sp.ways (pl L))) ∧ Kp (G + 1) V3 V ∧ Below w.heap.size w V) (fun _ _ => False)
      (fun t A B row hs hg hr => by
        obtain ⟨p, q, c, h1, h2, h3, h4⟩ := hs
        exact ⟨p, q, c, boxed_keep h1 hg (fun r e => (hr r e).2), row_own h2 hg (fun r e => (hr r e).2), kp_own (β := Unit) hb3 (Nat.le_refl _) () A B row h3 hg hr, ownFrom_below (β := Unit) (Nat.le_refl _) (by have := HS3.out; omega) () A B row h4 hg hr⟩)
      (fun t A B row hs hg hr => hs)
      ⟨_, _, _, HO3.out, HR3.out, Kp.refl _ _, HB3.out⟩
      (fun z => { tmps := #[.slice ao n cap, PT w.heap.size, .slice none 0 0, PT (G + 1), .int .i64 (z.1 : Int), .string z.2, undef, undef, .slice ao n cap, .int .i64 0, .bool false, .slice (some ⟨G, 0, none⟩) 1 1, .slice ao n cap, .func (.func 38) #[] #[PT (W2.heap.size + 1), PT (W2.heap.size + 1 + 1), PT W2.heap.size], .int .i64 (z.1 : Int), .string z.2, undef, undef, undef, undef, undef, undef, undef, undef, undef, undef, undef, undef, undef, undef, undef, undef, undef, undef, undef, undef, undef, undef], defers := [] }) ?assign ?body ?done ?stop
    case assign =>
      intro l' m' z V4 K hK
      unfold encF
      gi_wp2
      exact hK
    case body =>
      rintro l' m' pre ⟨no, path⟩ V4 hl' hpz ⟨p, q, c, hX, hR, hK, hB⟩
      obtain ⟨hz1, hz2, hz3⟩ := HBD.out (no, path) (hpz.subset (by simp))
      simp only at hz1 hz2 hz3
      obtain ⟨x, hx⟩ : ∃ x, L[no]? = some x := ⟨_, List.getElem?_eq_getElem (by rw [HN.out]; exact hz1)⟩
      obtain ⟨⟨b, off, rfl, hBl, hc⟩, hen, hel, hes⟩ := tab_eight HV.out hx
      have HES : Hid (∀ j e, x.i.ents[j]? = some e → ∃ b' off, x.ep = some ⟨b', off, none⟩ ∧ b' < w.heap.size ∧ ent4 w b' (off + j * 4) e) := hes
      have HEA : Hid (Sp.entsAt (pl L) no = x.i.ents) := (ents_at hx).1
      have HNS : Hid (∀ e ∈ x.i.ents, e.1.size ≤ 32) := by rw [← HEA.out]; exact hz3
      obtain ⟨c0, c1, c2, c3, c4, c5, c6, c7⟩ := hc.below hB hBl
      have hno' : (no : Int) < (n : Int) := by omega
      obtain ⟨m, hm⟩ : ∃ m, x.en = m := ⟨_, rfl⟩
      obtain ⟨ep, hep⟩ : ∃ ep, x.ep = ep := ⟨_, rfl⟩
      obtain ⟨ec, hec⟩ : ∃ ec, x.ec = ec := ⟨_, rfl⟩
      have HM : Hid (x.i.ents.length = m) := hen.symm.trans hm
      have hmb : m ≤ 3518437208883 := by rw [← HM.out]; exact hel
      have HEP : Hid (x.ep = ep) := hep
      rw [hm, hep, hec] at c6
      have HWY : Hid (Sp.ways (pl L) (no, path) = x.i.ents.map fun e => Sp.way path e.1) := by show _ = _; unfold Sp.ways; rw [show (no, path).1 = no from rfl, HEA.out]
      have HLEN : Hid ((pre.flatMap (Sp.ways (pl L))).length + m ≤ 36864) := by
        obtain ⟨t, ht⟩ := hpz
        have h := HFEW.out
        rw [← ht, List.flatMap_append, List.flatMap_append, List.length_append, List.length_append, List.flatMap_cons, List.flatMap_nil, List.append_nil, HWY.out, List.length_map, HM.out] at h
        show _ ≤ _
        omega
      have d1 := (hK.cell (o := 0) HX3.out.2 HX3.out.1.lt).trans HX3.out.1.cell
      obtain ⟨base, hbase⟩ : ∃ base, (⟨#[47]⟩ : ByteArray) :: pre.flatMap (Sp.ways (pl L)) = base := ⟨_, rfl⟩
      have HBL : Hid (base.length ≤ 36865 - m ∧ m ≤ 36864) := by
        rw [← hbase]
        have := HLEN.out
        exact ⟨by simp only [List.length_cons]; omega, by omega⟩
      have HBS : Hid (⟨#[47]⟩ :: (pre ++ [(no, path)]).flatMap (Sp.ways (pl L)) = base ++ x.i.ents.map fun e => Sp.way path e.1) := by
        show _ = _
        rw [← hbase, List.flatMap_append, List.flatMap_cons, List.flatMap_nil, List.append_nil, HWY.out, List.cons_append]
      rw [hbase] at hR
      have HX4 : Hid (Boxed V4 (G + 1) 35 (.slice p q c)) := hX
      have HR4 : Hid (Row ETx V4 G 9 (.slice p q c) base) := hR
      have HB4 : Hid (Below w.heap.size w V4) := hB
      have HK4 : Hid (Kp (G + 1) V3 V4) := hK
      have HPS : Hid (path.size ≤ 800) := hz2
      clear hX hR hB hK hx hc hes hen hel hm hep hec hz3 hbase hpz hz2 c0 c1 c2 c3 c4 c5 c7
      gi_wp2
      clear c6 d1
      gi_loopw [22] (fun i wr => ∃ (j : Nat) (p : Option Addr) (q c : Nat), j ≤ m ∧ i = .int .i64 j ∧ Hid (Boxed wr (G + 1) 35 (.slice p q c)) ∧ Hid (Row ETx wr G 9 (.slice p q c) (base ++ (x.i.ents.take j).map fun e => Sp.way path e.1)) ∧ Hid (Kp (G + 1) V4 wr) ∧ Hid (Below w.heap.size w wr)) (fun i _ => m - (intOf i).toNat)
      case atStart => exact ⟨0, p, q, c, Nat.zero_le _, rfl, HX4.out, (show Row ETx V4 G 9 (.slice p q c) (base ++ (x.i.ents.take 0).map fun e => Sp.way path e.1) from by simpa using HR4.out), Kp.refl _ _, HB4.out⟩
      case round =>
        obtain ⟨j, p5, q5, c5, hj, rfl, HX5, HR5, HK5, HB5⟩ := hrel
        by_cases hjm : j < m
        · obtain ⟨⟨s, ck, e3, g⟩, hej⟩ : ∃ e, x.i.ents[j]? = some e := ⟨_, List.getElem?_eq_getElem (by rw [HM.out]; exact hjm)⟩
          obtain ⟨b2, off2, hep, hb2, h4⟩ := HES.out j _ hej
          obtain rfl : ep = some ⟨b2, off2, none⟩ := HEP.out.symm.trans hep
          obtain ⟨d0, d1, d2, d3⟩ := h4.below HB5.out hb2
          simp only at d0 d1 d2 d3
          have hjm' : (j : Int) < (m : Int) := by omega
          have hss : s.size ≤ 32 := HNS.out _ (List.mem_of_getElem? hej)
          have hcat : ¬ 9223372036854775807 < path.size + 1 + s.size := by have := HPS.out; omega
          have HST : Hid (base ++ (x.i.ents.take (j + 1)).map (fun e => Sp.way path e.1) = base ++ (x.i.ents.take j).map (fun e => Sp.way path e.1) ++ [path ++ (⟨#[47]⟩ : ByteArray) ++ s]) := by
            show _ = _
            rw [List.take_add_one, hej, List.map_append, List.append_assoc]
            rfl
          obtain ⟨ls, hls⟩ : ∃ ls, base ++ (x.i.ents.take j).map (fun e => Sp.way path e.1) = ls := ⟨_, rfl⟩
          have HLL : Hid (ls.length ≤ 36865) := by
            have h1 := HBL.out
            have h2 : ls.length ≤ 36865 := by
              rw [← hls]
              simp only [List.length_append, List.length_map, List.length_take]
              omega
            exact h2
          rw [hls] at HST HR5
          have e5 := HX5.out.cell
          have hl5 := HX5.out.lt
          obtain ⟨W6, hW6⟩ : ∃ W6, W6 = (wr.alloc (BEn (s, ck, e3, g))).alloc (.cells #[.string (path ++ (⟨#[47]⟩ : ByteArray) ++ s)] 9) := ⟨_, rfl⟩
          have hg6 : wr.grownBy W6 none := by rw [hW6]; exact grown_trans (World.grownBy_alloc _ _ none) (World.grownBy_alloc _ _ none)
          have HX6 : Hid (Boxed W6 (G + 1) 35 (.slice p5 q5 c5)) := HX5.out.kept hg6 (by simp)
          have HR6 : Hid (Row ETx W6 G 9 (.slice p5 q5 c5) ls) := HR5.out.up (below_none hg6 (Nat.le_refl _))
          have HB6 : Hid (Below w.heap.size w W6) := HB5.out.trans ((below_none hg6 (Nat.le_refl _)).mono HB5.out.size)
          have HK6 : Hid (Kp (G + 1) V4 W6) := HK5.out.trans (Kp.still ⟨_, HX5.out.cell, fun k e => (HR5.out.lt k e).2⟩ hg6)
          have HO6 : Hid (AtW ETx W6 (.slice (some ⟨wr.heap.size + 1, 0, none⟩) 1 1) [path ++ (⟨#[47]⟩ : ByteArray) ++ s]) := by
            have h2 := heap_alloc_new (wr.alloc (BEn (s, ck, e3, g))) (.cells #[.string (path ++ (⟨#[47]⟩ : ByteArray) ++ s)] 9)
            rw [show (wr.alloc (BEn (s, ck, e3, g))).heap.size = wr.heap.size + 1 by simp] at h2
            rw [hW6]
            exact at_oneT h2
          have HGW : Hid (G ≤ W6.heap.size ∧ w.heap.size ≤ G + 1) := ⟨by have := HX6.out.lt; omega, by have := HS3.out; omega⟩
          clear hej hep h4 hls hg6
          gi_wp2_with (gi_at_builtin; rw [← hW6]; refine wpListIn_row _ rfl _ _ 35 rfl ETx (fun _ => True) G 9 j0 _ 16 Try.underlying35 hji hy0 hy1 hy2 rfl _ ls rfl HR6.out _ [path ++ (⟨#[47]⟩ : ByteArray) ++ s] rfl HO6.out (by have := HLL.out; unfold maxLen; simp only [List.length_cons, List.length_nil]; omega) (by have := HLL.out; simp only [List.length_cons, List.length_nil]; omega) HGW.out.1 ?_; intro v7 w7 hrow7 hg7 hloc7; have HEND : Hid (Kp (G + 1) W6 (w7.setCell ⟨G + 1, 0, none⟩ v7) ∧ Boxed (w7.setCell ⟨G + 1, 0, none⟩ v7) (G + 1) 35 v7 ∧ Row ETx (w7.setCell ⟨G + 1, 0, none⟩ v7) G 9 v7 (ls ++ [path ++ (⟨#[47]⟩ : ByteArray) ++ s])) := kp_app HX6.out HR6.out hg7 hrow7 hloc7; have hb7 : Boxed w7 (G + 1) 35 (.slice p5 q5 c5) := (hg7.block (G + 1) HX6.out.lt (fun e => row_box HR6.out HX6.out _ e.symm rfl)).trans HX6.out; have HB7 : Hid (Below w.heap.size w (w7.setCell ⟨G + 1, 0, none⟩ v7)) := (HB6.out.grown hg7 HB6.out.size (fun k hk => by have := (HR6.out.lt k hk).1; have := HS3.out; omega)).setCell HGW.out.2 _; have c7 := hb7.cell; have f7 := hb7.frozen; obtain ⟨p7, n7, k7, rfl⟩ := hrow7.slice3; clear hrow7 hg7 hloc7 hb7)
          go_roundw
          case rel => exact ⟨j + 1, p7, n7, k7, by omega, by go_num, HEND.out.2.1, by rw [HST.out]; exact HEND.out.2.2, HK6.out.trans HEND.out.1, HB7.out⟩
          case measure => simp [intOf]; omega
        · obtain rfl : m = j := by omega
          have HE : Hid (base ++ (x.i.ents.take m).map (fun e => Sp.way path e.1) = ⟨#[47]⟩ :: (pre ++ [(no, path)]).flatMap (Sp.ways (pl L))) := by
            show _ = _
            rw [HBS.out, List.take_of_length_le (by rw [HM.out]; exact Nat.le_refl _)]
          gi_wp2
          exact ⟨HK5.out, p5, q5, c5, HX5.out, by rw [← HE.out]; exact HR5.out, HK4.out.trans HK5.out, HB5.out⟩
    case done =>
      rintro D V5 hD ⟨p, q, c, hX, hR, -, hB⟩ hdf
      have HX5 : Hid (Boxed V5 (G + 1) 35 (.slice p q c)) := hX
      have HR5 : Hid (Row ETx V5 G 9 (.slice p q c) (⟨#[47]⟩ :: xs.flatMap (Sp.ways (pl L)))) := hR
      have HB5 : Hid (Below w.heap.size w V5) := hB
      have HD5 : Hid (V5.heap[D]? = some (.deferred (some [])) ∧ w.heap.size ≤ D) := ⟨hdf, by have := HS3.out; omega⟩
      obtain ⟨g, rfl⟩ : ∃ g, p = some ⟨g, 0, none⟩ := by
        rcases hR with ⟨_, h⟩ | ⟨g, cap, cur, hu, _⟩
        · cases h
        · simp only [Value.slice.injEq] at hu
          exact ⟨g, hu.1⟩
      have e5 := hX.cell
      have HSO : Hid (∀ {V : World}, V5 = V → Calls Try.prog 21 #[.slice (some ⟨g, 0, none⟩) q c] V fun e w' => e = .returned (.tuple #[]) ∧ Row ETx w' G 9 (.slice (some ⟨g, 0, none⟩) q c) (Sp.sortT (⟨#[47]⟩ :: xs.flatMap (Sp.ways (pl L)))) ∧ V.grownBy w' (some g)) := fun {V} h => by
        subst h
        exact sort_row g c q _ V5 G HR5.out (by have := HFEW.out; simp only [List.length_cons]; omega)
      clear hX hR hB hdf hD
      gi_wp2
      refine ⟨trivial, ?_⟩
      refine CallsIn.mono (callsIn_wide.2 (HSO.out rfl)) ?_
      rintro e' w6 ⟨rfl, hr6, hg6⟩
      have hgX : g ≠ G + 1 := row_box HR5.out HX5.out g rfl
      have HX6 : Hid (Boxed w6 (G + 1) 35 (.slice (some ⟨g, 0, none⟩) q c)) := (hg6.block (G + 1) HX5.out.lt (fun e => hgX (Option.some.inj e).symm)).trans HX5.out
      have HD6 : Hid (w6.heap[D]? = some (.deferred (some []))) := by
        refine (hg6.block D (Array.getElem?_eq_some_iff.1 HD5.out.1).1 (fun e => ?_)).trans HD5.out.1
        obtain ⟨cur, hc⟩ := row_block HR5.out (k := g) rfl
        have hDg : D = g := Option.some.inj e
        rw [← hDg, HD5.out.1] at hc
        cases hc
      have HB6 : Hid (Below w.heap.size w w6) := HB5.out.grown hg6 HB5.out.size (fun k e => by cases e; have := (HR5.out.lt g rfl).1; have := HS3.out; omega)
      have HR6 : Hid (Row ETx w6 G 9 (.slice (some ⟨g, 0, none⟩) q c) (Sp.sortT (⟨#[47]⟩ :: xs.flatMap (Sp.ways (pl L))))) := hr6
      have e6 := HX6.out.cell
      clear hr6 hg6 e5
      gi_wp2
      refine ⟨by simp, .inl ⟨_, _, rfl, run_takeDeferred HD6.out, ?_⟩⟩
      refine ⟨_, results_tmp rfl _ _ _, _, rfl, (row_own HR6.out (grownBy_putObj' _ _ _) (fun r e => by cases e; exact ⟨_, HD6.out, rfl⟩)).at.wide, HB6.out.grown (grownBy_putObj' _ _ _) HB6.out.size (fun k e => by cases e; exact HD5.out.2)⟩
    case stop =>
      rintro D pre V5 hD hpre h hdf
      exact h.elim
end Go.Proofs.Ytacghcoikekfeaa
/- Pth1 -/
namespace Go.Proofs.Ytacghcoikekfeaa
open It
set_option maxRecDepth 100000
namespace Sp
theorem less_iff : ∀ x y : List UInt8, Go.Op.bytesLess x y = true ↔ x < y
  | [], [] => by simp [Go.Op.bytesLess]
  | [], b :: y => by simp [Go.Op.bytesLess]
  | a :: x, [] => by simp [Go.Op.bytesLess]
  | a :: x, b :: y => by
    rw [List.cons_lt_cons_iff, ← less_iff x y]
    simp [Go.Op.bytesLess]
def leT (a b : ByteArray) : Prop := a.data.toList ≤ b.data.toList
theorem toL (s : ByteArray) : s.toList = s.data.toList := ByteArray.toList_eq ..
theorem ltT_yes {a b : ByteArray} (h : ltT a b = true) : leT a b := by
  unfold ltT at h
  rw [less_iff, toL, toL] at h
  exact List.le_of_lt h
theorem ltT_no {a b : ByteArray} (h : ltT a b = false) : leT b a := by
  have h' : ¬ Go.Op.bytesLess a.toList b.toList = true := by unfold ltT at h; rw [h]; simp
  rw [less_iff, toL, toL] at h'
  exact List.not_lt.1 h'
theorem leT_trans {a b c : ByteArray} (h : leT a b) (h' : leT b c) : leT a c := List.le_trans h h'
theorem insT_sorted (s : ByteArray) : ∀ l : List ByteArray, l.Pairwise leT → (insT s l).Pairwise leT
  | [], _ => by simp [insT]
  | x :: l, h => by
    obtain ⟨h1, h2⟩ := List.pairwise_cons.1 h
    unfold insT
    cases hc : ltT s x with
    | true =>
      rw [if_pos rfl]
      refine List.pairwise_cons.2 ⟨fun y hy => ?_, h⟩
      rcases List.mem_cons.1 hy with rfl | hy
      · exact ltT_yes hc
      · exact leT_trans (ltT_yes hc) (h1 y hy)
    | false =>
      rw [if_neg (by simp)]
      refine List.pairwise_cons.2 ⟨fun y hy => ?_, insT_sorted s l h2⟩
      rcases List.mem_cons.1 ((insT_perm s l).subset hy) with rfl | hy
      · exact ltT_no hc
      · exact h1 y hy
theorem fold_sorted {α : Type} {g : List ByteArray → α → List ByteArray} (h : ∀ o e, o.Pairwise leT → (g o e).Pairwise leT) : ∀ (l : List α) (o : List ByteArray), o.Pairwise leT → (l.foldl g o).Pairwise leT
  | [], _, ho => ho
  | e :: l, o, ho => fold_sorted h l _ (h o e ho)
theorem below_sorted (L : List Ino) : ∀ (f no : Nat) (path : ByteArray) (out : List ByteArray), out.Pairwise leT → (below L f no path out).Pairwise leT
  | 0, _, _, _, h => h
  | f + 1, no, path, out, h => by
    rw [below_succ]
    refine fold_sorted (fun o e ho => ?_) _ _ h
    unfold belowE
    split
    · exact below_sorted L f _ _ _ (insT_sorted _ _ ho)
    · exact insT_sorted _ _ ho
theorem sortT_perm (l : List ByteArray) : (sortT l).Perm l := by
  unfold sortT
  have h := (List.mergeSort_perm (l.map fun s => s.data.toList) (fun x y => decide (x ≤ y))).map (fun x => (⟨x.toArray⟩ : ByteArray))
  refine h.trans ?_
  rw [List.map_map]
  have e : l.map ((fun x => (⟨x.toArray⟩ : ByteArray)) ∘ fun s : ByteArray => s.data.toList) = l := by
    conv => rhs; rw [← List.map_id l]
    exact List.map_congr_left fun s _ => by simp
  rw [e]
theorem sortT_sorted (l : List ByteArray) : (sortT l).Pairwise leT := by
  unfold sortT
  have h := List.pairwise_mergeSort (le := fun x y : List UInt8 => decide (x ≤ y)) (fun a b c h1 h2 => by simp only [decide_eq_true_eq] at h1 h2 ⊢; exact List.le_trans h1 h2) (fun a b => by simp only [Bool.or_eq_true, decide_eq_true_eq]; exact List.le_total a b) (l.map fun s => s.data.toList)
  refine List.pairwise_map.2 (h.imp fun {a b} hab => ?_)
  unfold leT
  simpa using hab
/-- A way from the root begins with a stroke. -/
theorem way_stroke {p s : ByteArray} (h : p.size = 0 ∨ p.data.toList.head? = some 47) : leT ⟨#[47]⟩ (way p s) := by
  unfold leT way
  have e : (p ++ (⟨#[47]⟩ : ByteArray) ++ s).data.toList = p.data.toList ++ 47 :: s.data.toList := by simp
  rw [e]
  rcases h with h | h
  · have h0 : p.data.toList = [] := by
      have h1 : p.data.size = 0 := h
      rw [← Array.length_toList] at h1
      exact List.eq_nil_of_length_eq_zero h1
    rw [h0]
    show ([47] : List UInt8) ≤ 47 :: s.data.toList
    refine List.not_lt.1 fun hlt => ?_
    rw [List.cons_lt_cons_iff] at hlt
    rcases hlt with hlt | ⟨-, hlt⟩
    · simp at hlt
    · exact List.not_lt_nil _ hlt
  · cases hp : p.data.toList with
    | nil => rw [hp] at h; cases h
    | cons a l =>
      rw [hp] at h
      cases h
      show ([47] : List UInt8) ≤ 47 :: (l ++ 47 :: s.data.toList)
      refine List.not_lt.1 fun hlt => ?_
      rw [List.cons_lt_cons_iff] at hlt
      rcases hlt with hlt | ⟨-, hlt⟩
      · simp at hlt
      · exact List.not_lt_nil _ hlt
theorem way_head (p s : ByteArray) (h : p.size = 0 ∨ p.data.toList.head? = some 47) : (way p s).data.toList.head? = some 47 := by
  unfold way
  have e : (p ++ (⟨#[47]⟩ : ByteArray) ++ s).data.toList = p.data.toList ++ 47 :: s.data.toList := by simp
  rw [e]
  rcases h with h | h
  · have h0 : p.data.toList = [] := by
      have h1 : p.data.size = 0 := h
      rw [← Array.length_toList] at h1
      exact List.eq_nil_of_length_eq_zero h1
    rw [h0]
    rfl
  · cases hp : p.data.toList with
    | nil => rw [hp] at h; cases h
    | cons a l => rw [hp] at h; simpa using h
theorem walk_head {L : List Ino} : ∀ (f no : Nat) (path : ByteArray) (z : Nat × ByteArray), (path.size = 0 ∨ path.data.toList.head? = some 47) → z ∈ walk L f no path → z.2.size = 0 ∨ z.2.data.toList.head? = some 47
  | 0, _, _, _, _, hz => by cases hz
  | f + 1, no, path, z, h, hz => by
    rw [walk_succ] at hz
    rcases List.mem_cons.1 hz with rfl | hz
    · exact h
    · obtain ⟨e, he, hze⟩ := List.mem_flatMap.1 hz
      exact walk_head f _ _ z (.inr (way_head _ _ h)) (mem_step hze).2
theorem paths_same (L : List Ino) : pathsC L = pathsR L := by
  unfold pathsC pathsR
  split
  · have hp : (sortT (⟨#[47]⟩ :: (walk L 24 0 ⟨#[]⟩).flatMap (ways L))).Perm (⟨#[47]⟩ :: below L 24 0 ⟨#[]⟩ []) := (sortT_perm _).trans (.cons _ (by simpa using (below_perm L 24 0 ⟨#[]⟩ []).symm))
    refine List.Perm.eq_of_pairwise (le := leT) (fun a b _ _ h1 h2 => ?_) (sortT_sorted _) (List.pairwise_cons.2 ⟨fun y hy => ?_, below_sorted L _ _ _ _ .nil⟩) hp
    · have := List.le_antisymm h1 h2
      cases a
      cases b
      simpa using this
    · have hy' := (below_perm L 24 0 ⟨#[]⟩ []).subset hy
      rw [List.nil_append] at hy'
      obtain ⟨z, hz, hyz⟩ := List.mem_flatMap.1 hy'
      obtain ⟨e, he, rfl⟩ := List.mem_map.1 hyz
      exact way_stroke (walk_head 24 0 ⟨#[]⟩ z (.inl rfl) hz)
  · rfl
end Sp
end Go.Proofs.Ytacghcoikekfeaa
/- Same -/
namespace Go.Proofs.Ytacghcoikekfeaa
open Go.ChangeShapes Go.WideShapes Go.ChangeAt Go.RowKit Go.Deep It
set_option maxRecDepth 100000

theorem eight_grw {w : World} {b o : Nat} {x : Rw} (h : eight w b o x) (p : Grw w) : eight p.out b o x := h.below p.below (World.block_lt_of_cell? _ _ h.1)
end Go.Proofs.Ytacghcoikekfeaa
/- Lw0 -/
namespace Go.Proofs.Ytacghcoikekfeaa
open Go.ChangeShapes Go.WideShapes Go.ChangeAt Go.RowKit Go.Deep It
set_option maxRecDepth 100000
set_option maxHeartbeats 2000000 in
theorem texts_same {S T : Nat → Prop} (u v : Value) (l : List ByteArray) (w : World) (hu : At ETx S w u l) (hv : At ETx T w v l) :
    Calls Try.prog 15 #[u, v] w fun e w' => e = .returned (.bool true) ∧ Below w.heap.size w w' := by
  obtain ⟨ao, cap, rfl, hm, hx⟩ := hu.open
  obtain ⟨bo, cap', rfl, _, hy⟩ := hv.open
  clear hu hv
  unfold maxLen at hm
  obtain ⟨n, hn⟩ : ∃ n, l.length = n := ⟨_, rfl⟩
  rw [hn] at hm ⊢
  have HN : Hid (l.length = n) := hn
  have HX : Hid (∀ i x, l[i]? = some x → ∃ b off, ao = some ⟨b, off, none⟩ ∧ b < w.heap.size ∧ w.cell? ⟨b, off + i, none⟩ = some (.string x)) := fun i x hi => by
    obtain ⟨b, off, h1, -, h3, h4⟩ := hx i x hi
    have := h4 0 _ rfl
    exact ⟨b, off, h1, h3, by simpa [ETx] using this⟩
  have HY : Hid (∀ i x, l[i]? = some x → ∃ b off, bo = some ⟨b, off, none⟩ ∧ b < w.heap.size ∧ w.cell? ⟨b, off + i, none⟩ = some (.string x)) := fun i x hi => by
    obtain ⟨b, off, h1, -, h3, h4⟩ := hy i x hi
    have := h4 0 _ rfl
    exact ⟨b, off, h1, h3, by simpa [ETx] using this⟩
  clear hn hx hy
  go_enter Try.func15, Try.ntmps15
  go_wp2
  go_loopw [8] (fun i wr => ∃ k : Nat, k ≤ n ∧ i = .int .i64 k ∧ Below w.heap.size w wr) (fun i _ => n - (intOf i).toNat)
  case atStart => exact ⟨0, Nat.zero_le _, rfl, Below.refl _ _⟩
  case round =>
    obtain ⟨k, hk, rfl, hbl⟩ := hrel
    by_cases hlt : k < n
    · obtain ⟨y, hyk⟩ : ∃ y, l[k]? = some y := ⟨_, List.getElem?_eq_getElem (by rw [HN.out]; exact hlt)⟩
      obtain ⟨b, off, rfl, hB, hc⟩ := HX.out k y hyk
      obtain ⟨b', off', rfl, hB', hc'⟩ := HY.out k y hyk
      have c0 := (hbl.cell (p := ⟨b, off + k, none⟩) hB).trans hc
      have d0 := (hbl.cell (p := ⟨b', off' + k, none⟩) hB').trans hc'
      have hlt' : (k : Int) < (n : Int) := by omega
      have hge : decide ((n : Int) ≤ (k : Int)) = false := by simp; omega
      have hge2 : decide (n ≤ k) = false := by simp; omega
      clear hyk hc hc'
      go_wp2
      go_quiet (fail)
      go_wp2
      go_roundw
      case rel => exact ⟨k + 1, by omega, by go_num, Go.below_drewN hbl _⟩
      case measure => simp [intOf]; omega
    · obtain rfl : k = n := by omega
      go_wp2
      go_ret
      exact ⟨by simp, hbl⟩
theorem root_any (w : World) : Calls Try.prog 9 #[] w fun e w' => e = .returned (.agg #[.int .i64 0, .int .i64 1]) ∧ Below w.heap.size w w' := by
  go_enter Try.func9, Try.ntmps9
  go_wp2
  (try simp only [Exit.inBlock, Exit.then])
  refine bodyPost_ret (v := .agg #[.int .i64 0, .int .i64 1]) ?_ rfl ⟨rfl, ?_⟩
  · rw [results_cell1 rfl]
    go_simp
  · have h := (Below.refl w.heap.size w)
    repeat (first | exact h | refine Below.alloc ?_ (Nat.le_refl _) _ | refine Below.setCell ?_ (by simp) _)
end Go.Proofs.Ytacghcoikekfeaa
/- SStp -/
namespace Go.Proofs.Ytacghcoikekfeaa
open Go.ChangeShapes Go.WideShapes Go.ChangeAt Go.RowKit Go.Deep It
set_option maxRecDepth 100000
set_option maxRecDepth 100000
/-- A step: what, the folder's place, the other's, the names. -/
abbrev Stp := Int × Int × Int × ByteArray × ByteArray
def EQ : Enc Stp := ⟨5, fun x => [.int .i64 x.1, .int .i64 x.2.1, .int .i64 x.2.2.1, .string x.2.2.2.1, .string x.2.2.2.2], fun _ => rfl, fun x u hu => by
  simp at hu
  rcases hu with rfl | rfl | rfl | rfl | rfl <;> rfl⟩
abbrev VQ (q d t : Int) (s s2 : ByteArray) : Value := .agg #[.int .i64 q, .int .i64 d, .int .i64 t, .string s, .string s2]
abbrev BQ (q d t : Int) (s s2 : ByteArray) : Obj := .cells #[.int .i64 q, .int .i64 d, .int .i64 t, .string s, .string s2] 31
theorem stp_of {w : World} {A : Nat} {q d t : Int} {s s2 : ByteArray} (h : w.heap[A]? = some (BQ q d t s s2)) :
    w.cell? ⟨A, 0, none⟩ = some (.int .i64 q) ∧ w.cell? ⟨A, 1, none⟩ = some (.int .i64 d) ∧ w.cell? ⟨A, 2, none⟩ = some (.int .i64 t) ∧ w.cell? ⟨A, 3, none⟩ = some (.string s) ∧ w.cell? ⟨A, 4, none⟩ = some (.string s2) := by
  refine ⟨?_, ?_, ?_, ?_, ?_⟩ <;> simp [World.cell?, h]
namespace Sp
def pickH (L : List Ino) (n : Int) : Int × Int := if n < 0 ∨ ((used L).length : Int) ≤ n then (0, 0) else ((used L)[n.toNat]?).getD (0, 0)
noncomputable def doE (L : List Ino) (q d t : Int) (s s2 : ByteArray) (st : Int) : Int :=
  if q = 0 ∨ q = 1 then mkE (chk isSp) L (pickH L d).1 (pickH L d).2 s (q + 1) st
  else if q = 2 then linkE (chk isSp) L (pickH L t).1 (pickH L t).2 (pickH L d).1 (pickH L d).2 s st
  else if q = 3 then ulE (chk isSp) L (pickH L d).1 (pickH L d).2 s st
  else if q = 4 then rmE (chk isSp) L (pickH L d).1 (pickH L d).2 s st
  else rnE (chk isSp) insB L (pickH L d).1 (pickH L d).2 s (pickH L t).1 (pickH L t).2 s2 st
noncomputable def doT (L : List Ino) (q d t : Int) (s s2 : ByteArray) (st : Int) : List Ino :=
  if q = 0 ∨ q = 1 then mkT (chk isSp) L (pickH L d).1 (pickH L d).2 s (q + 1) st
  else if q = 2 then linkT (chk isSp) L (pickH L t).1 (pickH L t).2 (pickH L d).1 (pickH L d).2 s st
  else if q = 3 then ulT (chk isSp) L (pickH L d).1 (pickH L d).2 s st
  else if q = 4 then rmT (chk isSp) L (pickH L d).1 (pickH L d).2 s st
  else rnT (chk isSp) insB L (pickH L d).1 (pickH L d).2 s (pickH L t).1 (pickH L t).2 s2 st
theorem do_stays {L : List Ino} {q d t st : Int} {s s2 : ByteArray} (h : doE L q d t s s2 st = 0) : isSp (doT L q d t s s2 st) = true := by
  unfold doE at h
  unfold doT
  split
  · rename_i h1
    rw [if_pos h1] at h
    exact make_stays h
  · rename_i h1
    rw [if_neg h1] at h
    split
    · rename_i h2
      rw [if_pos h2] at h
      exact link_stays h
    · rename_i h2
      rw [if_neg h2] at h
      split
      · rename_i h3
        rw [if_pos h3] at h
        exact unlink_stays h
      · rename_i h3
        rw [if_neg h3] at h
        split
        · rename_i h4
          rw [if_pos h4] at h
          exact rmdir_stays h
        · rename_i h4
          rw [if_neg h4] at h
          exact rename_stays h
theorem do_none {L : List Ino} {q d t st : Int} {s s2 : ByteArray} (h : doE L q d t s s2 st ≠ 0) : doT L q d t s s2 st = [] := by
  unfold doE at h
  unfold doT
  split
  · rename_i h1
    rw [if_pos h1] at h
    exact make_none h
  · rename_i h1
    rw [if_neg h1] at h
    split
    · rename_i h2
      rw [if_pos h2] at h
      exact link_none h
    · rename_i h2
      rw [if_neg h2] at h
      split
      · rename_i h3
        rw [if_pos h3] at h
        exact unlink_none h
      · rename_i h3
        rw [if_neg h3] at h
        split
        · rename_i h4
          rw [if_pos h4] at h
          exact rmdir_none h
        · rename_i h4
          rw [if_neg h4] at h
          exact rename_none h
end Sp
set_option maxHeartbeats 2000000 in
theorem pick_any {S : Nat → Prop} (v : Value) (L : List Rw) (n : Int) (w : World) (hv : TabAt S w v L) (hL : L.length ≤ 1466015503701) :
    Calls Try.prog 16 #[v, .int .i64 n] w fun e w' => e = .returned (.agg #[.int .i64 (Sp.pickH (pl L) n).1, .int .i64 (Sp.pickH (pl L) n).2]) ∧ Below w.heap.size w w' := by
  obtain ⟨W, hW⟩ : ∃ W, W = w.alloc (BH 0 0) := ⟨_, rfl⟩
  have HB0 : Hid (Below w.heap.size w W) := by show Below w.heap.size w W; rw [hW]; exact (Below.refl _ w).alloc (Nat.le_refl _) _
  have HA0 : Hid (W.heap[w.heap.size]? = some (BH 0 0)) := by show W.heap[w.heap.size]? = _; rw [hW]; exact heap_alloc_new _ _
  have HV : Hid (TabAt S W v L) := hv.up HB0.out
  obtain ⟨ao, cap, rfl, -, -⟩ := hv.open
  clear hv
  obtain ⟨⟨pa, pb⟩, hp⟩ : ∃ p, Sp.pickH (pl L) n = p := ⟨_, rfl⟩
  rw [hp]
  have HP : Hid (Sp.pickH (pl L) n = (pa, pb)) := hp
  clear hp
  go_enter Try.func16, Try.ntmps16
  go_wp2_with fail
  rw [← hW]
  clear hW
  refine (used_any _ L _ HV.out hL).mono ?_
  rintro e w2 ⟨u2, rfl, hu2, hb2⟩
  obtain ⟨p2, z2, rfl, hm2, hx2⟩ := hu2.open
  have HB2 : Hid (Below w.heap.size w w2) := HB0.out.trans (hb2.mono HB0.out.size)
  have HA2 : Hid (w2.heap[w.heap.size]? = some (BH 0 0)) := (hb2.block _ (Array.getElem?_eq_some_iff.1 HA0.out).1).trans HA0.out
  have hla := (Array.getElem?_eq_some_iff.1 HA2.out).1
  obtain ⟨U, hU⟩ : ∃ U, used (pl L) = U := ⟨_, rfl⟩
  obtain ⟨m, hm⟩ : ∃ m, U.length = m := ⟨_, rfl⟩
  have hpp := HP.out
  unfold Sp.pickH at hpp
  rw [hU] at hm2 hx2 hpp ⊢
  rw [hm] at hm2 hpp ⊢
  unfold maxLen at hm2
  obtain ⟨⟨f0, f1⟩, ff⟩ := two_of HA2.out
  clear hb2 hu2
  by_cases h0 : n < 0
  · rw [if_pos (.inl h0)] at hpp
    obtain ⟨rfl, rfl⟩ : 0 = pa ∧ 0 = pb := Prod.mk.inj hpp
    go_wp2
    (try simp only [Exit.inBlock, Exit.then])
    refine bodyPost_ret (v := .agg #[.int .i64 0, .int .i64 0]) ?_ rfl ⟨rfl, ?_⟩
    · rw [results_cell1 rfl]
      go_simp
    · exact Below.setCell (Below.setCell HB2.out (by simp) _) (by simp) _
  by_cases h1 : (m : Int) ≤ n
  · rw [if_pos (.inr h1)] at hpp
    obtain ⟨rfl, rfl⟩ : 0 = pa ∧ 0 = pb := Prod.mk.inj hpp
    go_wp2
    (try simp only [Exit.inBlock, Exit.then])
    refine bodyPost_ret (v := .agg #[.int .i64 0, .int .i64 0]) ?_ rfl ⟨rfl, ?_⟩
    · rw [results_cell1 rfl]
      go_simp
    · exact Below.setCell (Below.setCell HB2.out (by simp) _) (by simp) _
  · rw [if_neg (by omega)] at hpp
    obtain ⟨k, rfl⟩ : ∃ k : Nat, n = k := ⟨n.toNat, by omega⟩
    have hk : k < m := by omega
    obtain ⟨x, hxk⟩ : ∃ x, U[k]? = some x := ⟨_, List.getElem?_eq_getElem (by omega)⟩
    obtain ⟨b, off, rfl, -, hB, hc⟩ := hx2 k x hxk
    obtain ⟨x0, x1⟩ := x
    have c0 : w2.cell? ⟨b, off + k * 2, none⟩ = some (.int .i64 x0) := hc 0 _ rfl
    have c1 : w2.cell? ⟨b, off + k * 2 + 1, none⟩ = some (.int .i64 x1) := hc 1 _ rfl
    rw [show ((k : Int)).toNat = k by omega, hxk] at hpp
    obtain ⟨rfl, rfl⟩ : x0 = pa ∧ x1 = pb := Prod.mk.inj hpp
    clear hc hx2
    go_wp2
    (try simp only [Exit.inBlock, Exit.then])
    refine bodyPost_ret (v := .agg #[.int .i64 x0, .int .i64 x1]) ?_ rfl ⟨rfl, ?_⟩
    · rw [results_cell1 rfl]
      go_simp
    · exact Below.setCell (Below.setCell HB2.out (by simp) _) (by simp) _
set_option maxHeartbeats 8000000 in
theorem sdo_any {S : Nat → Prop} (v : Value) (L : List Rw) (q d t : Int) (s s2 : ByteArray) (st : Int) (w : World) (hv : TabAt S w v L) (hok : Sp.okN L) (hL : L.length ≤ 1466015503701) (hs : s.size ≤ maxLen) (hs2 : s2.size ≤ maxLen) :
    Calls Try.prog 6 #[v, VQ q d t s s2, .int .i64 st] w fun e w' => ∃ u L', e = .returned (.tuple #[u, .int .i64 (Sp.doE (pl L) q d t s s2 st)]) ∧ TabW w' u L' ∧ pl L' = Sp.doT (pl L) q d t s s2 st ∧ Below w.heap.size w w' := by
  have HV : Hid (TabAt S w v L) := hv
  have HOK : Hid (Sp.okN L) := hok
  have HLL : Hid (L.length ≤ 1466015503701) := hL
  have HSM : Hid (s.size ≤ maxLen ∧ s2.size ≤ maxLen) := ⟨hs, hs2⟩
  obtain ⟨ao, cap, rfl, -, -⟩ := hv.open
  obtain ⟨n, hn⟩ : ∃ n, L.length = n := ⟨_, rfl⟩
  rw [hn] at HV ⊢
  clear hv hok hn hs hs2 hL
  obtain ⟨W0, hW0⟩ : ∃ W0, W0 = w.alloc (BQ q d t s s2) := ⟨_, rfl⟩
  have HB0 : Hid (Below w.heap.size w W0) := by show Below _ _ _; rw [hW0]; exact (Below.refl _ _).alloc (Nat.le_refl _) _
  have HX0 : Hid (W0.heap[w.heap.size]? = some (BQ q d t s s2)) := by show W0.heap[w.heap.size]? = _; rw [hW0]; exact heap_alloc_new _ _
  obtain ⟨⟨da, db⟩, hd⟩ : ∃ p, Sp.pickH (pl L) d = p := ⟨_, rfl⟩
  obtain ⟨⟨ta, tb⟩, ht⟩ : ∃ p, Sp.pickH (pl L) t = p := ⟨_, rfl⟩
  obtain ⟨f0, f1, f2, f3, f4⟩ := stp_of HX0.out
  have hlx0 := (Array.getElem?_eq_some_iff.1 HX0.out).1
  have hE : Sp.doE (pl L) q d t s s2 st = if q = 0 ∨ q = 1 then Sp.mkE (Sp.chk Sp.isSp) (pl L) da db s (q + 1) st else if q = 2 then Sp.linkE (Sp.chk Sp.isSp) (pl L) ta tb da db s st else if q = 3 then Sp.ulE (Sp.chk Sp.isSp) (pl L) da db s st else if q = 4 then Sp.rmE (Sp.chk Sp.isSp) (pl L) da db s st else Sp.rnE (Sp.chk Sp.isSp) Sp.insB (pl L) da db s ta tb s2 st := by
    unfold Sp.doE
    rw [hd, ht]
  have hT : Sp.doT (pl L) q d t s s2 st = if q = 0 ∨ q = 1 then Sp.mkT (Sp.chk Sp.isSp) (pl L) da db s (q + 1) st else if q = 2 then Sp.linkT (Sp.chk Sp.isSp) (pl L) ta tb da db s st else if q = 3 then Sp.ulT (Sp.chk Sp.isSp) (pl L) da db s st else if q = 4 then Sp.rmT (Sp.chk Sp.isSp) (pl L) da db s st else Sp.rnT (Sp.chk Sp.isSp) Sp.insB (pl L) da db s ta tb s2 st := by
    unfold Sp.doT
    rw [hd, ht]
  obtain ⟨E, hEE⟩ : ∃ E, Sp.doE (pl L) q d t s s2 st = E := ⟨_, rfl⟩
  obtain ⟨T, hTT⟩ : ∃ T, Sp.doT (pl L) q d t s s2 st = T := ⟨_, rfl⟩
  rw [hEE, hTT]
  have HE := hE.symm.trans hEE
  have HTT := hT.symm.trans hTT
  clear hE hT hEE hTT
  have HD : Hid (Sp.pickH (pl L) d = (da, db)) := hd
  have HT : Hid (Sp.pickH (pl L) t = (ta, tb)) := ht
  clear hd ht
  go_enter Try.func6, Try.ntmps6
  go_wp2_with fail
  rw [← hW0]
  clear hW0 f0 f1 f2 f3 f4
  refine (pick_any _ L d _ (HV.out.up HB0.out) HLL.out).mono ?_
  rintro e w1 ⟨rfl, hb1⟩
  rw [HD.out]
  obtain ⟨W1, hW1⟩ : ∃ W1, W1 = w1.alloc (BH da db) := ⟨_, rfl⟩
  have bw1 : Below w1.heap.size w1 W1 := by rw [hW1]; exact (Below.refl _ _).alloc (Nat.le_refl _) _
  have bn1 : Below W0.heap.size W0 W1 := hb1.trans (bw1.mono hb1.size)
  have HB1 : Hid (Below w.heap.size w W1) := HB0.out.trans (bn1.mono HB0.out.size)
  have HY1 : Hid (w1.heap[w.heap.size]? = some (BQ q d t s s2)) := (hb1.block _ hlx0).trans HX0.out
  have HX1 : Hid (W1.heap[w.heap.size]? = some (BQ q d t s s2)) := (bn1.block _ hlx0).trans HX0.out
  have HA1 : Hid (W1.heap[w1.heap.size]? = some (BH da db)) := by show W1.heap[w1.heap.size]? = _; rw [hW1]; exact heap_alloc_new _ _
  have hlx1 := (Array.getElem?_eq_some_iff.1 HX1.out).1
  have hly1 := (Array.getElem?_eq_some_iff.1 HY1.out).1
  have hla1 := (Array.getElem?_eq_some_iff.1 HA1.out).1
  obtain ⟨f0, f1, f2, f3, f4⟩ := stp_of HY1.out
  clear hb1 bw1 bn1
  go_wp2_with fail
  rw [← hW1]
  clear hW1 f0 f1 f2 f3 f4
  refine (pick_any _ L t _ (HV.out.up HB1.out) HLL.out).mono ?_
  rintro e w2 ⟨rfl, hb2⟩
  rw [HT.out]
  obtain ⟨W2, hW2⟩ : ∃ W2, W2 = w2.alloc (BH ta tb) := ⟨_, rfl⟩
  have bw2 : Below w2.heap.size w2 W2 := by rw [hW2]; exact (Below.refl _ _).alloc (Nat.le_refl _) _
  have bn2 : Below W1.heap.size W1 W2 := hb2.trans (bw2.mono hb2.size)
  have HB2 : Hid (Below w.heap.size w W2) := HB1.out.trans (bn2.mono HB1.out.size)
  have HY2 : Hid (w2.heap[w.heap.size]? = some (BQ q d t s s2)) := (hb2.block _ hlx1).trans HX1.out
  have HX2 : Hid (W2.heap[w.heap.size]? = some (BQ q d t s s2)) := (bn2.block _ hlx1).trans HX1.out
  have HAY2 : Hid (w2.heap[w1.heap.size]? = some (BH da db)) := (hb2.block _ hla1).trans HA1.out
  have HA2 : Hid (W2.heap[w1.heap.size]? = some (BH da db)) := (bn2.block _ hla1).trans HA1.out
  have HC2 : Hid (W2.heap[w2.heap.size]? = some (BH ta tb)) := by show W2.heap[w2.heap.size]? = _; rw [hW2]; exact heap_alloc_new _ _
  have hly2 := (Array.getElem?_eq_some_iff.1 HY2.out).1
  have hla2 := (Array.getElem?_eq_some_iff.1 HAY2.out).1
  obtain ⟨f0, f1, f2, f3, f4⟩ := stp_of HY2.out
  obtain ⟨⟨g0, g1⟩, gg⟩ := two_of HAY2.out
  clear hb2 bw2 bn2 gg
  by_cases h0 : q = 0
  · subst h0
    rw [if_pos (.inl rfl), show (0 : Int) + 1 = 1 from rfl] at HE HTT
    go_wp2_with fail
    rw [← hW2]
    refine (smake_any scheck_any isSp_means _ L da db s 1 st _ (HV.out.up HB2.out) HOK.out HSM.out.1).mono ?_
    rintro e w3 ⟨u3, L3, rfl, ht3, hp3, hb3⟩
    obtain ⟨p3, z3, hu3, -, -⟩ := ht3.open
    obtain ⟨m3, hm3⟩ : ∃ m, L3.length = m := ⟨_, rfl⟩
    rw [hm3] at hu3
    subst hu3
    rw [HE]
    have hp4 := hp3.trans HTT
    obtain ⟨⟨qa, qb⟩, hq⟩ : ∃ y, Sp.mkH (Sp.chk Sp.isSp) (pl L) da db s 1 st = y := ⟨_, rfl⟩
    rw [hq]
    have HF : Hid (TabW (w3.alloc (BH qa qb)) (.slice p3 m3 z3) L3 ∧ Below w.heap.size w (w3.alloc (BH qa qb))) := ⟨(tab_wide ht3).up ((Below.refl _ _).alloc (Nat.le_refl _) _), (HB2.out.trans (hb3.mono HB2.out.size)).alloc (Nat.le_trans HB2.out.size hb3.size) _⟩
    clear ht3 hm3 hb3
    go_wp2
    (try simp only [Exit.inBlock, Exit.then])
    refine bodyPost_ret (v := .tuple #[.slice p3 m3 z3, .int .i64 E]) (by simp [results, Try.results6, go_sem]) rfl ?_
    exact ⟨_, L3, rfl, HF.out.1, hp4, HF.out.2⟩
  by_cases h1 : q = 1
  · subst h1
    rw [if_pos (.inr rfl), show (1 : Int) + 1 = 2 from rfl] at HE HTT
    go_wp2_with fail
    rw [← hW2]
    refine (smake_any scheck_any isSp_means _ L da db s 2 st _ (HV.out.up HB2.out) HOK.out HSM.out.1).mono ?_
    rintro e w3 ⟨u3, L3, rfl, ht3, hp3, hb3⟩
    obtain ⟨p3, z3, hu3, -, -⟩ := ht3.open
    obtain ⟨m3, hm3⟩ : ∃ m, L3.length = m := ⟨_, rfl⟩
    rw [hm3] at hu3
    subst hu3
    rw [HE]
    have hp4 := hp3.trans HTT
    obtain ⟨⟨qa, qb⟩, hq⟩ : ∃ y, Sp.mkH (Sp.chk Sp.isSp) (pl L) da db s 2 st = y := ⟨_, rfl⟩
    rw [hq]
    have HF : Hid (TabW (w3.alloc (BH qa qb)) (.slice p3 m3 z3) L3 ∧ Below w.heap.size w (w3.alloc (BH qa qb))) := ⟨(tab_wide ht3).up ((Below.refl _ _).alloc (Nat.le_refl _) _), (HB2.out.trans (hb3.mono HB2.out.size)).alloc (Nat.le_trans HB2.out.size hb3.size) _⟩
    clear ht3 hm3 hb3
    go_wp2
    (try simp only [Exit.inBlock, Exit.then])
    refine bodyPost_ret (v := .tuple #[.slice p3 m3 z3, .int .i64 E]) (by simp [results, Try.results6, go_sem]) rfl ?_
    exact ⟨_, L3, rfl, HF.out.1, hp4, HF.out.2⟩
  rw [if_neg (by omega)] at HE HTT
  by_cases h2 : q = 2
  · subst h2
    rw [if_pos rfl] at HE HTT
    go_wp2_with fail
    rw [← hW2]
    refine (slink_any scheck_any isSp_means _ L ta tb da db s st _ (HV.out.up HB2.out) HOK.out HSM.out.1).mono ?_
    rintro e w3 ⟨u3, L3, rfl, ht3, hp3, hb3⟩
    obtain ⟨p3, z3, hu3, -, -⟩ := ht3.open
    obtain ⟨m3, hm3⟩ : ∃ m, L3.length = m := ⟨_, rfl⟩
    rw [hm3] at hu3
    subst hu3
    rw [HE]
    have hp4 := hp3.trans HTT
    have HF : Hid (TabW w3 (.slice p3 m3 z3) L3 ∧ Below w.heap.size w w3) := ⟨tab_wide ht3, HB2.out.trans (hb3.mono HB2.out.size)⟩
    clear ht3 hm3 hb3
    go_wp2
    (try simp only [Exit.inBlock, Exit.then])
    refine bodyPost_ret (v := .tuple #[.slice p3 m3 z3, .int .i64 E]) (by simp [results, Try.results6, go_sem]) rfl ?_
    exact ⟨_, L3, rfl, HF.out.1, hp4, HF.out.2⟩
  rw [if_neg h2] at HE HTT
  by_cases h3 : q = 3
  · subst h3
    rw [if_pos rfl] at HE HTT
    go_wp2_with fail
    rw [← hW2]
    refine (sunlink_any scheck_any isSp_means _ L da db s st _ (HV.out.up HB2.out) HOK.out HSM.out.1).mono ?_
    rintro e w3 ⟨u3, L3, rfl, ht3, hp3, hb3⟩
    obtain ⟨p3, z3, hu3, -, -⟩ := ht3.open
    obtain ⟨m3, hm3⟩ : ∃ m, L3.length = m := ⟨_, rfl⟩
    rw [hm3] at hu3
    subst hu3
    rw [HE]
    have hp4 := hp3.trans HTT
    obtain ⟨⟨qa, qb⟩, hq⟩ : ∃ y, Sp.ulH (Sp.chk Sp.isSp) (pl L) da db s st = y := ⟨_, rfl⟩
    rw [hq]
    have HF : Hid (TabW (w3.alloc (BH qa qb)) (.slice p3 m3 z3) L3 ∧ Below w.heap.size w (w3.alloc (BH qa qb))) := ⟨(tab_wide ht3).up ((Below.refl _ _).alloc (Nat.le_refl _) _), (HB2.out.trans (hb3.mono HB2.out.size)).alloc (Nat.le_trans HB2.out.size hb3.size) _⟩
    clear ht3 hm3 hb3
    go_wp2
    (try simp only [Exit.inBlock, Exit.then])
    refine bodyPost_ret (v := .tuple #[.slice p3 m3 z3, .int .i64 E]) (by simp [results, Try.results6, go_sem]) rfl ?_
    exact ⟨_, L3, rfl, HF.out.1, hp4, HF.out.2⟩
  rw [if_neg h3] at HE HTT
  by_cases h4 : q = 4
  · subst h4
    rw [if_pos rfl] at HE HTT
    go_wp2_with fail
    rw [← hW2]
    refine (srmdir_any scheck_any isSp_means _ L da db s st _ (HV.out.up HB2.out) HOK.out HSM.out.1).mono ?_
    rintro e w3 ⟨u3, L3, rfl, ht3, hp3, hb3⟩
    obtain ⟨p3, z3, hu3, -, -⟩ := ht3.open
    obtain ⟨m3, hm3⟩ : ∃ m, L3.length = m := ⟨_, rfl⟩
    rw [hm3] at hu3
    subst hu3
    rw [HE]
    have hp4 := hp3.trans HTT
    have HF : Hid (TabW w3 (.slice p3 m3 z3) L3 ∧ Below w.heap.size w w3) := ⟨tab_wide ht3, HB2.out.trans (hb3.mono HB2.out.size)⟩
    clear ht3 hm3 hb3
    go_wp2
    (try simp only [Exit.inBlock, Exit.then])
    refine bodyPost_ret (v := .tuple #[.slice p3 m3 z3, .int .i64 E]) (by simp [results, Try.results6, go_sem]) rfl ?_
    exact ⟨_, L3, rfl, HF.out.1, hp4, HF.out.2⟩
  rw [if_neg h4] at HE HTT
  have t0 : (q == 0) = false := beq_eq_false_iff_ne.2 h0
  have t1 : (q == 1) = false := beq_eq_false_iff_ne.2 h1
  have t2 : (q == 2) = false := beq_eq_false_iff_ne.2 h2
  have t3 : (q == 3) = false := beq_eq_false_iff_ne.2 h3
  have t4 : (q == 4) = false := beq_eq_false_iff_ne.2 h4
  go_wp2_with fail
  rw [← hW2]
  refine (srename_any scheck_any isSp_means ins_said _ L da db s ta tb s2 st _ (HV.out.up HB2.out) HOK.out HSM.out.1 HSM.out.2).mono ?_
  rintro e w3 ⟨u3, L3, rfl, ht3, hp3, hb3⟩
  obtain ⟨p3, z3, hu3, -, -⟩ := ht3.open
  obtain ⟨m3, hm3⟩ : ∃ m, L3.length = m := ⟨_, rfl⟩
  rw [hm3] at hu3
  subst hu3
  rw [HE]
  have hp4 := hp3.trans HTT
  have HF : Hid (TabW w3 (.slice p3 m3 z3) L3 ∧ Below w.heap.size w w3) := ⟨tab_wide ht3, HB2.out.trans (hb3.mono HB2.out.size)⟩
  clear ht3 hm3 hb3
  go_wp2
  (try simp only [Exit.inBlock, Exit.then])
  refine bodyPost_ret (v := .tuple #[.slice p3 m3 z3, .int .i64 E]) (by simp [results, Try.results6, go_sem]) rfl ?_
  exact ⟨_, L3, rfl, HF.out.1, hp4, HF.out.2⟩
end Go.Proofs.Ytacghcoikekfeaa
/- Ltl0 -/
namespace Go.Proofs.Ytacghcoikekfeaa
open It
set_option maxRecDepth 100000
namespace Sp
abbrev nA : ByteArray := ⟨#[97]⟩
abbrev nB : ByteArray := ⟨#[98]⟩
abbrev nC : ByteArray := ⟨#[99]⟩
def T1 : List Ino := [⟨1, 2, 1, 1, 1, [], [(nA, 1, 1, 1)], 1⟩, ⟨1, 2, 1, 0, 1, [], [], 0⟩]
def T2 : List Ino := [⟨1, 2, 1, 1, 1, [], [(nA, 1, 1, 1)], 1⟩, ⟨1, 2, 1, 1, 2, [], [(nB, 1, 2, 1)], 1⟩, ⟨1, 1, 1, 0, 2, [], [], 0⟩]
theorem ok_one {c : UInt8} (h : c ≠ 46 ∧ c ≠ 47 ∧ c ≠ 0) : Nm.ok ⟨#[c]⟩ := by
  refine ⟨by simp [ByteArray.size], by simp [ByteArray.size], fun e => ?_, fun e => ?_, ?_⟩
  · have : #[c] = #[46] := congrArg ByteArray.data e
    simp at this
    exact h.1 this
  · have : #[c] = #[46, 46] := congrArg ByteArray.data e
    simp at this
  · intro i hi _
    have h0 : i = 0 := by
      have : i < 1 := hi
      omega
    subst h0
    show c.toNat ≠ 47 ∧ c.toNat ≠ 0
    exact ⟨fun e => h.2.1 (UInt8.toNat_inj.1 e), fun e => h.2.2 (UInt8.toNat_inj.1 e)⟩
theorem right_none : Fo.Right [] 0 := ⟨by omega, fun i hi => by simp at hi, by simp [Fo.apart]⟩
theorem right_single {s : ByteArray} {no : Int} (hs : Nm.ok s) (hn : 0 ≤ no ∧ no ≤ 23) : Fo.Right [(s, 1, no, 1)] 1 := by
  refine ⟨by omega, fun i hi => ?_, by simp [Fo.apart]⟩
  have : i = 0 := by simp at hi; exact hi
  subst this
  intro x hx
  simp at hx
  subst hx
  exact ⟨hs, by simp [Fo.lastC], hn, by show (1 : Int) ≤ 1; decide, by show (1 : Int) ≤ 1099511627776; decide⟩
theorem folds_new : folds new := fun x hx => by
  simp [new, fresh] at hx
  subst hx
  exact fun _ => ⟨right_none, rfl⟩
theorem folds_T1 : folds T1 := fun x hx => by
  simp [T1] at hx
  rcases hx with rfl | rfl
  · exact fun _ => ⟨right_single (ok_one (by decide)) (by decide), rfl⟩
  · exact fun _ => ⟨right_none, rfl⟩
theorem folds_T2 : folds T2 := fun x hx => by
  simp [T2] at hx
  rcases hx with rfl | rfl | rfl
  · exact fun _ => ⟨right_single (ok_one (by decide)) (by decide), rfl⟩
  · exact fun _ => ⟨right_single (ok_one (by decide)) (by decide), rfl⟩
  · intro h
    cases h
theorem isSp_new : isSp new = true := isSp_iff.2 ⟨by decide, folds_new, by decide, by decide⟩
theorem isSp_T1 : isSp T1 = true := isSp_iff.2 ⟨by decide, folds_T1, by decide, by decide⟩
theorem isSp_T2 : isSp T2 = true := isSp_iff.2 ⟨by decide, folds_T2, by decide, by decide⟩
noncomputable abbrev CC : List Ino → Int := chk isSp
theorem st_ok {L : List Ino} {st : Int} (h : isSp L = true) (ht : top L ≤ st ∧ st ≤ 1099511627776) : stErr CC L st = 0 := by
  unfold stErr CC chk
  rw [if_pos h, if_pos rfl, if_pos ht]
theorem name_free {L : List Ino} {a b nx : Int} {s : ByteArray} {es : List Ent} (hd : dirErr L a b = 0) (he : dirEnts L a b = es) (hn : dirNext L a b = nx) (hr : Fo.Right es nx) (hs : Nm.ok s) (ha : Fo.at' (Fo.called s) es = -1) : nameErr L a b s = 0 ∧ ∀ no gen, Ho no gen → nx ≠ 1099511627776 → Fo.addErr es nx s no gen = 0 := by
  have hk : Fo.ask es nx s = 0 := by rw [Fo.ask_right (Fo.err_ok hr), Nm.err_ok hs]
  have hf := (Fo.findErr_miss hk ha).1
  have hl : lookErr L a b s = 402 := by unfold lookErr; rw [if_pos hd, he, hn, hf]
  refine ⟨by unfold nameErr; rw [hl]; rfl, fun no gen ho hm => Fo.add_ok hk ho ha hm⟩
theorem name_hit {L : List Ino} {a b nx : Int} {s : ByteArray} {es : List Ent} {k : Nat} {x : Ent} (hd : dirErr L a b = 0) (he : dirEnts L a b = es) (hn : dirNext L a b = nx) (hr : Fo.Right es nx) (hs : Nm.ok s) (ha : Fo.at' (Fo.called s) es = k) (hx : es[k]? = some x) : lookErr L a b s = 0 ∧ lookH L a b s = x.2.2 := by
  have hk : Fo.ask es nx s = 0 := by rw [Fo.ask_right (Fo.err_ok hr), Nm.err_ok hs]
  have hf : Fo.findErr es nx s = 0 := by unfold Fo.findErr; rw [if_pos hk, if_neg (by rw [ha]; omega)]
  have hp : Fo.plc es nx s = k := by unfold Fo.plc; rw [if_pos hf, ha]
  refine ⟨by unfold lookErr; rw [if_pos hd, he, hn, hf], ?_⟩
  unfold lookH
  rw [if_pos hd, he, hn, Fo.found_hit hf hp hx]
theorem at_one {s t : ByteArray} {c no g : Int} (h : s = t) : Fo.at' (Fo.called s) [(t, c, no, g)] = (0 : Nat) := Fo.at_hit (x := (t, c, no, g)) rfl (by subst h; simp [Fo.called]) (fun j y hj => by omega)
theorem at_none {s t : ByteArray} {c no g : Int} (h : s.data.toList ≠ t.data.toList) : Fo.at' (Fo.called s) [(t, c, no, g)] = -1 := by
  have hc : Fo.called s (t, c, no, g) = false := by
    unfold Fo.called
    rw [toL, toL]
    exact beq_eq_false_iff_ne.2 (Ne.symm h)
  unfold Fo.at'
  simp [List.findIdx?_cons, hc]
theorem okA : Nm.ok nA := ok_one (by decide)
theorem okB : Nm.ok nB := ok_one (by decide)
theorem okC : Nm.ok nC := ok_one (by decide)
theorem mk1 : mkE CC new 0 1 nA 2 1 = 0 ∧ mkT CC new 0 1 nA 2 1 = T1 ∧ mkH CC new 0 1 nA 2 1 = (1, 1) := by
  obtain ⟨h1, h2⟩ := name_free (L := new) (a := 0) (b := 1) (s := nA) (es := []) (nx := 0) (by decide) (by decide) (by decide) right_none okA (by decide)
  have h3 : makeErr CC new 0 1 nA 2 1 = 0 := by unfold makeErr; rw [if_pos (st_ok isSp_new (by decide)), if_pos (by decide), h1]
  have h4 : It.makeErr new 2 1 = 0 := by decide
  have h5 : makeH new 2 1 = (1, 1) := by decide
  have hE : mkE CC new 0 1 nA 2 1 = 0 := by
    unfold mkE
    rw [if_pos h3, if_pos h4, h5, show dirEnts new 0 1 = [] from by decide, show dirNext new 0 1 = 0 from by decide]
    exact h2 1 1 (by decide) (by decide)
  refine ⟨hE, ?_, by unfold mkH; rw [if_pos hE, h5]⟩
  unfold mkT
  rw [if_pos hE, h5]
  rfl
theorem mk2 : mkE CC T1 1 1 nB 1 2 = 0 ∧ mkT CC T1 1 1 nB 1 2 = T2 := by
  obtain ⟨h1, h2⟩ := name_free (L := T1) (a := 1) (b := 1) (s := nB) (es := []) (nx := 0) (by decide) (by decide) (by decide) right_none okB (by decide)
  have h3 : makeErr CC T1 1 1 nB 1 2 = 0 := by unfold makeErr; rw [if_pos (st_ok isSp_T1 (by decide)), if_pos (by decide), h1]
  have h4 : It.makeErr T1 1 2 = 0 := by decide
  have h5 : makeH T1 1 2 = (2, 1) := by decide
  have hE : mkE CC T1 1 1 nB 1 2 = 0 := by
    unfold mkE
    rw [if_pos h3, if_pos h4, h5, show dirEnts T1 1 1 = [] from by decide, show dirNext T1 1 1 = 0 from by decide]
    exact h2 2 1 (by decide) (by decide)
  refine ⟨hE, ?_⟩
  unfold mkT
  rw [if_pos hE, h5]
  rfl
theorem to_T2 : toErr CC T2 3 0 1 nA = 0 ∧ toH CC T2 3 0 1 nA = (1, 1) := by
  obtain ⟨h1, h2⟩ := name_hit (L := T2) (a := 0) (b := 1) (s := nA) (es := [(nA, 1, 1, 1)]) (nx := 1) (k := 0) (x := (nA, 1, 1, 1)) (by decide) (by rfl) (by decide) (right_single okA (by decide)) okA (at_one rfl) rfl
  have hs := st_ok (st := 3) isSp_T2 (by decide)
  exact ⟨by unfold toErr; rw [if_pos hs, h1], by unfold toH; rw [if_pos hs, h2]⟩
theorem rn2 : rnE CC insB T2 0 1 nA 1 1 nC 3 = 410 := by
  obtain ⟨h1, h2⟩ := to_T2
  obtain ⟨h3, -⟩ := name_free (L := T2) (a := 1) (b := 1) (s := nC) (es := [(nB, 1, 2, 1)]) (nx := 1) (by decide) (by rfl) (by decide) (right_single okB (by decide)) okC (at_none (by decide))
  have h4 : moveErr insB T2 1 1 1 nC = 410 := by
    unfold moveErr
    rw [if_pos ⟨.inl h3, by decide⟩]
  unfold rnE
  rw [if_pos h1, h2, h4]
  rfl
theorem rm2 : rmE CC T2 0 1 nA 3 = 406 := by
  obtain ⟨h1, h2⟩ := to_T2
  unfold rmE
  rw [if_pos h1, h2]
  rfl
theorem pt2 : pathsC T2 = [⟨#[47]⟩, ⟨#[47, 97]⟩, ⟨#[47, 97, 47, 98]⟩] := by
  rw [paths_same]
  unfold pathsR
  rw [if_pos isSp_T2]
  have w1 : way ⟨#[]⟩ nA = ⟨#[47, 97]⟩ := by decide
  have w2 : way ⟨#[47, 97]⟩ nB = ⟨#[47, 97, 47, 98]⟩ := by decide
  have l1 : ltT ⟨#[47, 97, 47, 98]⟩ ⟨#[47, 97]⟩ = false := by
    unfold ltT
    rw [toL, toL]
    decide
  have b2 : below T2 23 1 ⟨#[47, 97]⟩ [⟨#[47, 97]⟩] = [⟨#[47, 97]⟩, ⟨#[47, 97, 47, 98]⟩] := by
    rw [below_succ, show entsAt T2 1 = [(nB, 1, 2, 1)] from rfl, List.foldl_cons, List.foldl_nil]
    unfold belowE
    rw [if_neg (by decide), w2]
    unfold insT
    rw [l1, if_neg (by decide)]
    rfl
  rw [below_succ, show entsAt T2 0 = [(nA, 1, 1, 1)] from rfl, List.foldl_cons, List.foldl_nil]
  unfold belowE
  rw [if_pos (by decide), w1]
  show _ :: below T2 23 1 _ _ = _
  rw [show insT ⟨#[47, 97]⟩ [] = [⟨#[47, 97]⟩] from rfl, b2]
end Sp
end Go.Proofs.Ytacghcoikekfeaa
/- Ltl -/
namespace Go.Proofs.Ytacghcoikekfeaa
open Go.ChangeShapes Go.WideShapes Go.ChangeAt Go.RowKit Go.Deep It
set_option maxRecDepth 100000
theorem okN_of {L : List Rw} {T : List Ino} (h : pl L = T) (ht : ∀ x ∈ T, ∀ e ∈ x.ents, e.1.size ≤ maxLen) : Sp.okN L := fun x hx e he => ht x.i (by rw [← h]; exact List.mem_map_of_mem hx) e he
theorem okT1 : ∀ x ∈ Sp.T1, ∀ e ∈ x.ents, e.1.size ≤ maxLen := by
  unfold maxLen
  decide
theorem okT2 : ∀ x ∈ Sp.T2, ∀ e ∈ x.ents, e.1.size ≤ maxLen := by
  unfold maxLen
  decide
theorem okT0 : ∀ x ∈ It.new, ∀ e ∈ x.ents, e.1.size ≤ maxLen := by
  unfold maxLen
  decide
theorem at_threeT {w : World} {A : Nat} {s t u : ByteArray} (h : w.heap[A]? = some (.cells #[.string s, .string t, .string u] 9)) : AtW ETx w (.slice (some ⟨A, 0, none⟩) 3 3) [s, t, u] := by
  refine .inr ⟨A, 0, 3, rfl, trivial, (Array.getElem?_eq_some_iff.1 h).1, by simp, by simp, by unfold maxLen; omega, fun j v hj => ?_⟩
  rw [flatT] at hj
  rcases j with _ | _ | _ | j <;> simp at hj <;> subst hj <;> simp [World.cell?, h]
set_option maxHeartbeats 4000000 in
theorem little_any (w : World) : Calls Try.prog 5 #[] w fun e w' => e = .returned (.bool true) ∧ Below w.heap.size w w' := by
  go_enter Try.func5, Try.ntmps5
  go_wp2_with fail
  refine (new_any _).mono ?_
  rintro e w1 ⟨u1, L1, rfl, ht1, hp1, hb1⟩
  have HB1 : Hid (Below w.heap.size w w1) := hb1
  have HT1 : Hid (TabAt (fun b => w.heap.size ≤ b) w1 u1 L1 ∧ pl L1 = It.new) := ⟨ht1, hp1⟩
  obtain ⟨ao1, cap1, rfl, -, -⟩ := ht1.open
  clear ht1 hp1 hb1
  go_wp2_with fail
  refine (root_any _).mono ?_
  rintro e w2 ⟨rfl, hb2⟩
  have HB2 : Hid (Below w.heap.size w w2) := HB1.out.trans (hb2.mono HB1.out.size)
  have HT2 : Hid (TabAt (fun b => w.heap.size ≤ b) w2 (.slice ao1 L1.length cap1) L1 ∧ pl L1 = It.new) := ⟨HT1.out.1.up hb2, HT1.out.2⟩
  clear hb2
  go_wp2_with fail
  refine (smake_any scheck_any isSp_means _ L1 0 1 Sp.nA 2 1 _ HT2.out.1 (okN_of HT2.out.2 okT0) (by unfold maxLen; decide)).mono ?_
  rintro e w3 ⟨u3, L3, rfl, ht3, hp3, hb3⟩
  rw [HT2.out.2, Sp.mk1.2.1] at hp3
  rw [HT2.out.2, Sp.mk1.1, Sp.mk1.2.2]
  have HB3 : Hid (Below w.heap.size w w3) := HB2.out.trans (hb3.mono HB2.out.size)
  obtain ⟨W3, hW3⟩ : ∃ W3, W3 = w3.alloc (BH 1 1) := ⟨_, rfl⟩
  have HBW : Hid (Below w.heap.size w W3) := by show Below _ _ _; rw [hW3]; exact HB3.out.alloc HB3.out.size _
  have HX3 : Hid (W3.heap[w3.heap.size]? = some (BH 1 1)) := by show W3.heap[w3.heap.size]? = _; rw [hW3]; exact heap_alloc_new _ _
  have HT3 : Hid (TabW W3 u3 L3 ∧ pl L3 = Sp.T1) := ⟨by rw [hW3]; exact tab_wide (ht3.up ((Below.refl _ _).alloc (Nat.le_refl _) _)), hp3⟩
  have hl3 : w3.heap.size < W3.heap.size := (Array.getElem?_eq_some_iff.1 HX3.out).1
  obtain ⟨ao3, cap3, rfl, -, -⟩ := ht3.open
  clear ht3 hp3 hb3 HT1 HT2
  go_wp2_with fail
  rw [← hW3]
  clear hW3
  refine (smake_any scheck_any isSp_means _ L3 1 1 Sp.nB 1 2 _ HT3.out.1 (okN_of HT3.out.2 okT1) (by unfold maxLen; decide)).mono ?_
  rintro e w4 ⟨u4, L4, rfl, ht4, hp4, hb4⟩
  rw [HT3.out.2, Sp.mk2.2] at hp4
  rw [HT3.out.2, Sp.mk2.1]
  obtain ⟨q4, hq4⟩ : ∃ q4, Sp.mkH (Sp.chk Sp.isSp) Sp.T1 1 1 Sp.nB 1 2 = q4 := ⟨_, rfl⟩
  rw [hq4]
  obtain ⟨qa, qb⟩ := q4
  have HB4 : Hid (Below w.heap.size w w4) := HBW.out.trans (hb4.mono HBW.out.size)
  have HX4 : Hid (w4.heap[w3.heap.size]? = some (BH 1 1)) := (hb4.block _ hl3).trans HX3.out
  obtain ⟨W4, hW4⟩ : ∃ W4, W4 = w4.alloc (BH qa qb) := ⟨_, rfl⟩
  have HBW4 : Hid (Below w.heap.size w W4) := by show Below _ _ _; rw [hW4]; exact HB4.out.alloc HB4.out.size _
  have hl4 : w3.heap.size < w4.heap.size := (Array.getElem?_eq_some_iff.1 HX4.out).1
  have HXW4 : Hid (W4.heap[w3.heap.size]? = some (BH 1 1)) := by show W4.heap[w3.heap.size]? = _; rw [hW4]; exact (Below.heap_alloc _ _ _ hl4).trans HX4.out
  have HT4 : Hid (TabW W4 u4 L4 ∧ pl L4 = Sp.T2) := ⟨by rw [hW4]; exact tab_wide (ht4.up ((Below.refl _ _).alloc (Nat.le_refl _) _)), hp4⟩
  have HOK : Hid (Sp.okN L4) := okN_of hp4 okT2
  obtain ⟨ao4, cap4, rfl, -, -⟩ := ht4.open
  obtain ⟨n4, hn4⟩ : ∃ n4, L4.length = n4 := ⟨_, rfl⟩
  rw [hn4] at HT4 ⊢
  clear ht4 hp4 hb4 HT3 hq4 hn4
  have HSG : Hid (∀ V : World, Below W4.heap.size W4 V → V.cell? ⟨w3.heap.size, 0, none⟩ = some (.int .i64 1) ∧ V.cell? ⟨w3.heap.size, 1, none⟩ = some (.int .i64 1)) := fun V h => by
    obtain ⟨⟨a0, a1⟩, _⟩ := two_of HXW4.out
    exact ⟨cell_step a0 h, cell_step a1 h⟩
  have HREN : Hid (∀ V, Below W4.heap.size W4 V → Calls Try.prog 12 #[.slice ao4 n4 cap4, .agg #[.int .i64 0, .int .i64 1], .string ⟨#[97]⟩, .agg #[.int .i64 1, .int .i64 1], .string ⟨#[99]⟩, .int .i64 3] V fun e w' => ∃ u, e = .returned (.tuple #[u, .int .i64 410]) ∧ Below V.heap.size V w') := fun V h => by
    refine (srename_any scheck_any isSp_means ins_said _ L4 0 1 Sp.nA 1 1 Sp.nC 3 V (HT4.out.1.up h) HOK.out (by unfold maxLen; decide) (by unfold maxLen; decide)).mono ?_
    rintro e w' ⟨u, L', h1, -, -, h4⟩
    rw [HT4.out.2, Sp.rn2] at h1
    exact ⟨u, h1, h4⟩
  go_wp2_with fail
  rw [← hW4]
  clear hW4
  go_region_held3 (fun V => V.cell? ⟨w3.heap.size, 0, none⟩ = some (.int .i64 1) ∧ V.cell? ⟨w3.heap.size, 1, none⟩ = some (.int .i64 1)) (first | exact HSG.out _ (by (repeat (first | with_reducible assumption | exact Below.refl _ _ | refine bel_drew ?_ | refine Below.setCell ?_ (by first | exact Nat.le_refl _ | assumption) _ | refine Below.alloc ?_ (by first | exact Nat.le_refl _ | assumption) _)))) (first
    | (go_at_call 9; refine (root_any _).mono ?_; rintro e w5 ⟨rfl, hb5⟩; have hb55 : Below W4.heap.size W4 w5 := undrew hb5; clear hb5)
    | (go_at_call 12; refine (HREN.out _ (by (repeat (first | with_reducible assumption | exact Below.refl _ _ | refine bel_drew ?_ | refine Below.setCell ?_ (by first | exact Nat.le_refl _ | assumption) _ | refine Below.alloc ?_ (by first | exact Nat.le_refl _ | assumption) _)))).mono ?_; rintro e w6 ⟨u6, rfl, hb6⟩; have hb66 : Below W4.heap.size W4 w6 := hb55.trans (hb6.mono hb55.size)))
  all_goals
    have HB6 : Hid (Below w.heap.size w w6) := HBW4.out.trans (hb66.mono HBW4.out.size)
    have HT6 : Hid (TabW w6 (.slice ao4 n4 cap4) L4 ∧ pl L4 = Sp.T2) := ⟨HT4.out.1.up hb66, HT4.out.2⟩
    clear hb66 hb6 hb55 HREN HSG
    go_wp2_with fail
    refine (root_any _).mono ?_
    rintro e w7 ⟨rfl, hb7⟩
    have HB7 : Hid (Below w.heap.size w w7) := HB6.out.trans (hb7.mono HB6.out.size)
    have HT7 : Hid (TabW w7 (.slice ao4 n4 cap4) L4 ∧ pl L4 = Sp.T2) := ⟨HT6.out.1.up hb7, HT6.out.2⟩
    clear hb7
    go_wp2_with fail
    refine (srmdir_any scheck_any isSp_means _ L4 0 1 Sp.nA 3 _ HT7.out.1 HOK.out (by unfold maxLen; decide)).mono ?_
    rintro e w8 ⟨u8, L8, rfl, -, -, hb8⟩
    rw [HT7.out.2, Sp.rm2]
    have HB8 : Hid (Below w.heap.size w w8) := HB7.out.trans (hb8.mono HB7.out.size)
    have HT8 : Hid (TabW w8 (.slice ao4 n4 cap4) L4 ∧ pl L4 = Sp.T2) := ⟨HT7.out.1.up hb8, HT7.out.2⟩
    clear hb8
    go_wp2_with fail
    refine (paths_any _ L4 _ HT8.out.1 HOK.out).mono ?_
    rintro e w9 ⟨u9, rfl, ho9, hb9⟩
    rw [HT8.out.2, Sp.pt2] at ho9
    have HB9 : Hid (Below w.heap.size w w9) := HB8.out.trans (hb9.mono HB8.out.size)
    have HO9 : Hid (AtW ETx w9 u9 [⟨#[47]⟩, ⟨#[47, 97]⟩, ⟨#[47, 97, 47, 98]⟩]) := ho9
    obtain ⟨p9, c9, rfl, -, -⟩ := ho9.open
    clear ho9 hb9
    obtain ⟨Wz, hWz⟩ : ∃ Wz, Wz = w9.alloc (.cells #[.string ⟨#[47]⟩, .string ⟨#[47, 97]⟩, .string ⟨#[47, 97, 47, 98]⟩] 9) := ⟨_, rfl⟩
    have HBz : Hid (Below w.heap.size w Wz) := by show Below _ _ _; rw [hWz]; exact HB9.out.alloc HB9.out.size _
    have HOz : Hid (AtW ETx Wz (.slice p9 3 c9) [⟨#[47]⟩, ⟨#[47, 97]⟩, ⟨#[47, 97, 47, 98]⟩]) := by show AtW _ _ _ _; rw [hWz]; exact HO9.out.up ((Below.refl _ _).alloc (Nat.le_refl _) _)
    have HPz : Hid (AtW ETx Wz (.slice (some ⟨w9.heap.size, 0, none⟩) 3 3) [⟨#[47]⟩, ⟨#[47, 97]⟩, ⟨#[47, 97, 47, 98]⟩]) := by
      show AtW _ _ _ _
      rw [hWz]
      exact at_threeT (heap_alloc_new _ _)
    go_wp2_with fail
    rw [← hWz]
    clear hWz
    refine (texts_same _ _ _ _ HOz.out HPz.out).mono ?_
    rintro e wE ⟨rfl, hbE⟩
    have HBE : Hid (Below w.heap.size w wE) := HBz.out.trans (hbE.mono HBz.out.size)
    clear hbE
    go_wp2
    go_ret
    exact ⟨rfl, HBE.out⟩
end Go.Proofs.Ytacghcoikekfeaa
