/- ZTake, ZRead, ZAttr, TAppend, TUnpack, as one. -/
import Derived.Lib.MinMax
import Derived.Test.YtggoccfddnpelaaGreatR16
namespace Go.Proofs.YtggoccfddnpelaaGreat
open Go.ChangeShapes Go.WideShapes Go.ChangeAt Go.RowKit Go.Deep It
set_option maxRecDepth 100000
abbrev BT (s:ByteArray):Obj:=.cells #[.string s] 81
/-- The box b has the text t now, all else that was there is as it was. -/
structure Tx (b:Nat) (t:ByteArray) (w w':World):Prop where
  box:w'.heap[b]? = some (BT t)
  gr:w.grownBy w' (some b)
theorem tx_set {w:World} {b:Nat} {s:ByteArray} (h:w.heap[b]? = some (BT s)) (t:ByteArray):Tx b t w (w.setCell ⟨b,0,none⟩ (.string t)):=⟨set_at h 0 _,grownBy_setCell' w b _⟩
theorem Tx.trans {b:Nat} {s t:ByteArray} {w w1 w2:World} (h:Tx b s w w1) (k:Tx b t w1 w2):Tx b t w w2:=⟨k.box,grown_trans h.gr k.gr⟩
theorem Tx.below {b n:Nat} {t:ByteArray} {w w' w0:World} (h:Tx b t w w') (hb:Below n w0 w) (hn:n<=b) (hw:n<=w.heap.size):Below n w0 w':=hb.grown h.gr hw (fun k hk=>by cases hk;exact hn)
theorem Tx.at {b k:Nat} {t:ByteArray} {w w':World} {o:Obj} (h:Tx b t w w') (hk:w.heap[k]? = some o) (hne:k≠b):w'.heap[k]? = some o:=(h.gr.block k (Array.getElem?_eq_some_iff.1 hk).1 (fun e=>hne (by cases e;rfl))).trans hk
set_option maxHeartbeats 1000000 in
theorem take_any (b n:Nat) (s:ByteArray) (w:World) (h:w.heap[b]? = some (BT s)) (hs:s.size<=maxLen) :
    Calls Tryz.prog 49 #[.pointer (some ⟨b,0,none⟩),.int .i64 n] w fun e w'=>e = .returned (.string (Sh.tk n s))/\w' = w.setCell ⟨b,0,none⟩ (.string (Sh.dr n s)):=by
  have h63 := hs
  unfold maxLen at h63
  have c0:w.cell? ⟨b,0,none⟩ = some (.string s):=cell_at h 0
  have f0:=fr_at h 0
  obtain ⟨m,hm⟩:∃ m:Nat,min n s.size = m:=⟨_,rfl⟩
  have HM:Hid (min (n:Int) (s.size:Int) = (m:Int)/\min n s.size = m):=⟨by omega,hm⟩
  have hmm:min (n:Int) (s.size:Int) = (m:Int):=by omega
  have hle:(m:Int)<=(s.size:Int):=by omega
  have hle':m<=s.size:=by omega
  clear hm
  go_enter Tryz.func49,Tryz.ntmps49
  go_wp2
  go_ret
  exact ⟨by unfold Sh.tk;rw [HM.out.2];rfl,by unfold Sh.dr;rw [HM.out.2]⟩
theorem num_any' (b n:Nat) (s:ByteArray) (w:World) (h:w.heap[b]? = some (BT s)) (hs:s.size<=maxLen) :
    Calls Tryz.prog 28 #[.pointer (some ⟨b,0,none⟩),.int .i64 n] w fun e w'=>e = .returned (.int .i64 (Sh.nm n s))/\Tx b (Sh.dr n s) w w':=by
  have HT:Hid (Tx b (Sh.dr n s) w (w.setCell ⟨b,0,none⟩ (.string (Sh.dr n s)))):=tx_set h _
  have HS:Hid ((Sh.tk n s).size<=maxLen):=Nat.le_trans (Sh.tk_size n s) hs
  have HH:Hid (w.heap[b]? = some (BT s)/\s.size<=maxLen):=⟨h,hs⟩
  clear h hs
  go_enter Tryz.func28,Tryz.ntmps28
  go_wp2_with fail
  refine (take_any b n s _ HH.out.1 HH.out.2).mono ?_
  rintro e w1 ⟨rfl,rfl⟩
  go_wp2_with fail
  refine (Ks.number_any _ _ HS.out).mono ?_
  rintro e w2 ⟨rfl,rfl⟩
  go_wp2
  go_ret
  exact ⟨rfl,HT.out⟩
theorem rest_any (b:Nat) (s:ByteArray) (w:World) (h:w.heap[b]? = some (BT s)) (hs:s.size<=maxLen) :
    Calls Tryz.prog 50 #[.pointer (some ⟨b,0,none⟩)] w fun e w'=>e = .returned (.string s)/\Tx b (Sh.dr s.size s) w w':=by
  have HT:Hid (Tx b (Sh.dr s.size s) w (w.setCell ⟨b,0,none⟩ (.string (Sh.dr s.size s)))):=tx_set h _
  have HH:Hid (w.heap[b]? = some (BT s)/\s.size<=maxLen):=⟨h,hs⟩
  have HE:Hid (Sh.tk s.size s = s):=Sh.cutE s rfl
  have c0:w.cell? ⟨b,0,none⟩ = some (.string s):=cell_at h 0
  clear h hs
  go_enter Tryz.func50,Tryz.ntmps50
  go_wp2_with fail
  refine (take_any b s.size s _ HH.out.1 HH.out.2).mono ?_
  rintro e w1 ⟨rfl,rfl⟩
  rw [HE.out]
  go_wp2
  go_ret
  exact ⟨rfl,HT.out⟩
/-- The same, with a block of the call's own beside the box. -/
structure Tr (b A:Nat) (s:ByteArray) (o:Obj) (w w':World):Prop where
  tx:Tx b s w w'
  at_:w'.heap[A]? = some o
  ne:A≠b
  new:w.heap.size<=A
theorem tr_new {w:World} {b:Nat} {s:ByteArray} (h:w.heap[b]? = some (BT s)) (o:Obj):Tr b w.heap.size s o w (w.alloc o) :=
  ⟨⟨(Below.heap_alloc w o b (Array.getElem?_eq_some_iff.1 h).1).trans h,World.grownBy_alloc w o (some b)⟩,heap_alloc_new w o,fun e=>by have:=(Array.getElem?_eq_some_iff.1 h).1;omega,Nat.le_refl _⟩
theorem Tr.call {b A:Nat} {s t:ByteArray} {o:Obj} {w w1 w2:World} (h:Tr b A s o w w1) (k:Tx b t w1 w2):Tr b A t o w w2:=⟨h.tx.trans k,k.at h.at_ h.ne,h.ne,h.new⟩
theorem Tr.set {b A:Nat} {s:ByteArray} {cs:Array Value} {T:TypeId} {w w1:World} (h:Tr b A s (.cells cs T) w w1) (k:Nat) (u:Value):Tr b A s (.cells (cs.setIfInBounds k u) T) w (w1.setCell ⟨A,k,none⟩ u):=by
  have hl:=(Array.getElem?_eq_some_iff.1 h.at_).1
  have off:∀ j,j≠A->(w1.setCell ⟨A,k,none⟩ u).heap[j]? = w1.heap[j]?:=fun j hj=>Below.heap_setCell _ _ _ _ hj
  refine ⟨⟨(off b (Ne.symm h.ne)).trans h.tx.box,⟨h.tx.gr.os,h.tx.gr.tape,h.tx.gr.output,by simpa [World.setCell] using h.tx.gr.size,fun j hj hb=>(off j (by have:=h.new;omega)).trans (h.tx.gr.block j hj hb)⟩⟩,set_at h.at_ k u,h.ne,h.new⟩
set_option maxHeartbeats 1000000 in
theorem handle_any (b:Nat) (s:ByteArray) (w:World) (h:w.heap[b]? = some (BT s)) (hs:s.size<=maxLen) :
    Calls Tryz.prog 54 #[.pointer (some ⟨b,0,none⟩)] w fun e w'=>e = .returned (.agg #[.int .i64 (Sh.rdH s).1,.int .i64 (Sh.rdH s).2])/\Tx b (Sh.dr 6 (Sh.dr 1 s)) w w':=by
  obtain ⟨A,hA⟩:∃ n,n = w.heap.size:=⟨_,rfl⟩
  obtain ⟨W,hW⟩:∃ W,W = w.alloc (.cells #[.int .i64 0,.int .i64 0] 55):=⟨_,rfl⟩
  have HT0:Hid (Tr b A s (.cells #[.int .i64 0,.int .i64 0] 55) w W):=by show Tr _ _ _ _ _ _;rw [hW,hA];exact tr_new h _
  have HZ0:Hid (s.size<=maxLen):=hs
  have HW:Hid (W = w.alloc (.cells #[.int .i64 0,.int .i64 0] 55)/\A = w.heap.size):=⟨hW,hA⟩
  clear h hs hW hA
  go_enter Tryz.func54,Tryz.ntmps54
  go_wp2_with fail
  rw [← HW.out.1,← HW.out.2]
  clear HW
  refine (num_any' b 1 s _ HT0.out.tx.box HZ0.out).mono ?_
  rintro e w1 ⟨rfl,hx⟩
  have HX1:Hid (Tr b A (Sh.dr 1 s) (.cells #[.int .i64 0,.int .i64 0] 55) w w1):=HT0.out.call hx
  have c0:=cell_at HX1.out.at_ 0
  have c1:=cell_at HX1.out.at_ 1
  have f0:=fr_at HX1.out.at_
  simp at c0 c1
  clear hx HT0
  have HT1:Hid (Tr b A (Sh.dr 1 s) (.cells #[.int .i64 (Sh.nm 1 s),.int .i64 0] 55) w (w1.setCell ⟨A,0,none⟩ (.int .i64 (Sh.nm 1 s)))):=(HX1.out.set 0 (.int .i64 (Sh.nm 1 s)))
  have HZ1:Hid ((Sh.dr 1 s).size<=maxLen):=Nat.le_trans (Sh.dr_size _ _) HZ0.out
  go_wp2_with fail
  clear c0 c1 f0 HX1 HZ0
  refine (num_any' b 6 (Sh.dr 1 s) _ HT1.out.tx.box HZ1.out).mono ?_
  rintro e w2 ⟨rfl,hx⟩
  have HX2:Hid (Tr b A (Sh.dr 6 (Sh.dr 1 s)) (.cells #[.int .i64 (Sh.nm 1 s),.int .i64 0] 55) w w2):=HT1.out.call hx
  have c0:=cell_at HX2.out.at_ 0
  have c1:=cell_at HX2.out.at_ 1
  have f0:=fr_at HX2.out.at_
  simp at c0 c1
  clear hx HT1
  have HT2:Hid (Tr b A (Sh.dr 6 (Sh.dr 1 s)) (.cells #[.int .i64 (Sh.nm 1 s),.int .i64 (Sh.nm 6 (Sh.dr 1 s))] 55) w (w2.setCell ⟨A,1,none⟩ (.int .i64 (Sh.nm 6 (Sh.dr 1 s))))):=(HX2.out.set 1 (.int .i64 (Sh.nm 6 (Sh.dr 1 s))))
  have HF:Hid (Tr b A (Sh.dr 6 (Sh.dr 1 s)) (.cells #[.int .i64 (Sh.nm 1 s),.int .i64 (Sh.nm 6 (Sh.dr 1 s))] 55) w (((w2.setCell ⟨A,1,none⟩ (.int .i64 (Sh.nm 6 (Sh.dr 1 s)))).setCell ⟨A,0,none⟩ (.int .i64 (Sh.nm 1 s))).setCell ⟨A,1,none⟩ (.int .i64 (Sh.nm 6 (Sh.dr 1 s))))):=((HT2.out.set 0 (.int .i64 (Sh.nm 1 s))).set 1 (.int .i64 (Sh.nm 6 (Sh.dr 1 s))))
  go_wp2
  generalize (((w2.setCell ⟨A,1,none⟩ (.int .i64 (Sh.nm 6 (Sh.dr 1 s)))).setCell ⟨A,0,none⟩ (.int .i64 (Sh.nm 1 s))).setCell ⟨A,1,none⟩ (.int .i64 (Sh.nm 6 (Sh.dr 1 s)))) = WF at HF ⊢
  have d0:=cell_at HF.out.at_ 0
  have d1:=cell_at HF.out.at_ 1
  simp at d0 d1
  clear c0 HT2 HX2 f0
  refine bodyPost_ret (v:=.agg #[.int .i64 (Sh.rdH s).1,.int .i64 (Sh.rdH s).2]) ?_ rfl ⟨rfl,?_⟩
  · rw [results_cell1 rfl]
    go_simp
    simp only [Sh.rdH,and_self]
  · exact HF.out.tx
set_option maxHeartbeats 1000000 in
theorem vopen_any (b:Nat) (s:ByteArray) (w:World) (h:w.heap[b]? = some (BT s)) (hs:s.size<=maxLen) :
    Calls Tryz.prog 30 #[.pointer (some ⟨b,0,none⟩)] w fun e w'=>e = .returned (Os.VO (Sh.rdO s))/\∃ t,Tx b t w w':=by
  obtain ⟨A,hA⟩:∃ n,n = w.heap.size:=⟨_,rfl⟩
  obtain ⟨W,hW⟩:∃ W,W = w.alloc (.cells #[.int .i64 0,.int .i64 0,.int .i64 0,.int .i64 0] 57):=⟨_,rfl⟩
  have HT0:Hid (Tr b A s (.cells #[.int .i64 0,.int .i64 0,.int .i64 0,.int .i64 0] 57) w W):=by show Tr _ _ _ _ _ _;rw [hW,hA];exact tr_new h _
  have HZ0:Hid (s.size<=maxLen):=hs
  have HW:Hid (W = w.alloc (.cells #[.int .i64 0,.int .i64 0,.int .i64 0,.int .i64 0] 57)/\A = w.heap.size):=⟨hW,hA⟩
  clear h hs hW hA
  go_enter Tryz.func30,Tryz.ntmps30
  go_wp2_with fail
  rw [← HW.out.1,← HW.out.2]
  clear HW
  refine (num_any' b 1 s _ HT0.out.tx.box HZ0.out).mono ?_
  rintro e w1 ⟨rfl,hx⟩
  have HX1:Hid (Tr b A (Sh.dr 1 s) (.cells #[.int .i64 0,.int .i64 0,.int .i64 0,.int .i64 0] 57) w w1):=HT0.out.call hx
  have c0:=cell_at HX1.out.at_ 0
  have c1:=cell_at HX1.out.at_ 1
  have c2:=cell_at HX1.out.at_ 2
  have c3:=cell_at HX1.out.at_ 3
  have f0:=fr_at HX1.out.at_
  simp at c0 c1 c2 c3
  clear hx HT0
  have HT1:Hid (Tr b A (Sh.dr 1 s) (.cells #[.int .i64 (Sh.nm 1 s),.int .i64 0,.int .i64 0,.int .i64 0] 57) w (w1.setCell ⟨A,0,none⟩ (.int .i64 (Sh.nm 1 s)))):=(HX1.out.set 0 (.int .i64 (Sh.nm 1 s)))
  have HZ1:Hid ((Sh.dr 1 s).size<=maxLen):=Nat.le_trans (Sh.dr_size _ _) HZ0.out
  go_wp2_with fail
  clear c0 c1 c2 c3 f0 HX1 HZ0
  refine (num_any' b 6 (Sh.dr 1 s) _ HT1.out.tx.box HZ1.out).mono ?_
  rintro e w2 ⟨rfl,hx⟩
  have HX2:Hid (Tr b A (Sh.dr 6 (Sh.dr 1 s)) (.cells #[.int .i64 (Sh.nm 1 s),.int .i64 0,.int .i64 0,.int .i64 0] 57) w w2):=HT1.out.call hx
  have c0:=cell_at HX2.out.at_ 0
  have c1:=cell_at HX2.out.at_ 1
  have c2:=cell_at HX2.out.at_ 2
  have c3:=cell_at HX2.out.at_ 3
  have f0:=fr_at HX2.out.at_
  simp at c0 c1 c2 c3
  clear hx HT1
  have HT2:Hid (Tr b A (Sh.dr 6 (Sh.dr 1 s)) (.cells #[.int .i64 (Sh.nm 1 s),.int .i64 (Sh.nm 6 (Sh.dr 1 s)),.int .i64 0,.int .i64 0] 57) w (w2.setCell ⟨A,1,none⟩ (.int .i64 (Sh.nm 6 (Sh.dr 1 s))))):=(HX2.out.set 1 (.int .i64 (Sh.nm 6 (Sh.dr 1 s))))
  have HZ2:Hid ((Sh.dr 6 (Sh.dr 1 s)).size<=maxLen):=Nat.le_trans (Sh.dr_size _ _) HZ1.out
  go_wp2_with fail
  clear c0 c1 c2 c3 f0 HX2 HZ1
  refine (handle_any b (Sh.dr 6 (Sh.dr 1 s)) _ HT2.out.tx.box HZ2.out).mono ?_
  rintro e w3 ⟨rfl,hx⟩
  have HX3:Hid (Tr b A (Sh.dr 6 (Sh.dr 1 (Sh.dr 6 (Sh.dr 1 s)))) (.cells #[.int .i64 (Sh.nm 1 s),.int .i64 (Sh.nm 6 (Sh.dr 1 s)),.int .i64 0,.int .i64 0] 57) w w3):=HT2.out.call hx
  have c0:=cell_at HX3.out.at_ 0
  have c1:=cell_at HX3.out.at_ 1
  have c2:=cell_at HX3.out.at_ 2
  have c3:=cell_at HX3.out.at_ 3
  have f0:=fr_at HX3.out.at_
  simp at c0 c1 c2 c3
  clear hx HT2
  have HT3:Hid (Tr b A (Sh.dr 6 (Sh.dr 1 (Sh.dr 6 (Sh.dr 1 s)))) (.cells #[.int .i64 (Sh.nm 1 s),.int .i64 (Sh.nm 6 (Sh.dr 1 s)),.int .i64 (Sh.rdH (Sh.dr 6 (Sh.dr 1 s))).1,.int .i64 (Sh.rdH (Sh.dr 6 (Sh.dr 1 s))).2] 57) w ((w3.setCell ⟨A,2,none⟩ (.int .i64 (Sh.rdH (Sh.dr 6 (Sh.dr 1 s))).1)).setCell ⟨A,3,none⟩ (.int .i64 (Sh.rdH (Sh.dr 6 (Sh.dr 1 s))).2))):=((HX3.out.set 2 (.int .i64 (Sh.rdH (Sh.dr 6 (Sh.dr 1 s))).1)).set 3 (.int .i64 (Sh.rdH (Sh.dr 6 (Sh.dr 1 s))).2))
  have HF:Hid (Tr b A (Sh.dr 6 (Sh.dr 1 (Sh.dr 6 (Sh.dr 1 s)))) (.cells #[.int .i64 (Sh.nm 1 s),.int .i64 (Sh.nm 6 (Sh.dr 1 s)),.int .i64 (Sh.rdH (Sh.dr 6 (Sh.dr 1 s))).1,.int .i64 (Sh.rdH (Sh.dr 6 (Sh.dr 1 s))).2] 57) w ((((((w3.setCell ⟨A,2,none⟩ (.int .i64 (Sh.rdH (Sh.dr 6 (Sh.dr 1 s))).1)).setCell ⟨A,3,none⟩ (.int .i64 (Sh.rdH (Sh.dr 6 (Sh.dr 1 s))).2)).setCell ⟨A,0,none⟩ (.int .i64 (Sh.nm 1 s))).setCell ⟨A,1,none⟩ (.int .i64 (Sh.nm 6 (Sh.dr 1 s)))).setCell ⟨A,2,none⟩ (.int .i64 (Sh.rdH (Sh.dr 6 (Sh.dr 1 s))).1)).setCell ⟨A,3,none⟩ (.int .i64 (Sh.rdH (Sh.dr 6 (Sh.dr 1 s))).2))):=((((HT3.out.set 0 (.int .i64 (Sh.nm 1 s))).set 1 (.int .i64 (Sh.nm 6 (Sh.dr 1 s)))).set 2 (.int .i64 (Sh.rdH (Sh.dr 6 (Sh.dr 1 s))).1)).set 3 (.int .i64 (Sh.rdH (Sh.dr 6 (Sh.dr 1 s))).2))
  go_wp2
  generalize ((((((w3.setCell ⟨A,2,none⟩ (.int .i64 (Sh.rdH (Sh.dr 6 (Sh.dr 1 s))).1)).setCell ⟨A,3,none⟩ (.int .i64 (Sh.rdH (Sh.dr 6 (Sh.dr 1 s))).2)).setCell ⟨A,0,none⟩ (.int .i64 (Sh.nm 1 s))).setCell ⟨A,1,none⟩ (.int .i64 (Sh.nm 6 (Sh.dr 1 s)))).setCell ⟨A,2,none⟩ (.int .i64 (Sh.rdH (Sh.dr 6 (Sh.dr 1 s))).1)).setCell ⟨A,3,none⟩ (.int .i64 (Sh.rdH (Sh.dr 6 (Sh.dr 1 s))).2)) = WF at HF ⊢
  have d0:=cell_at HF.out.at_ 0
  have d1:=cell_at HF.out.at_ 1
  have d2:=cell_at HF.out.at_ 2
  have d3:=cell_at HF.out.at_ 3
  simp at d0 d1 d2 d3
  clear c0 HT3 HX3 f0
  refine bodyPost_ret (v:=Os.VO (Sh.rdO s)) ?_ rfl ⟨rfl,(Sh.dr 6 (Sh.dr 1 (Sh.dr 6 (Sh.dr 1 s)))),?_⟩
  · rw [results_cell1 rfl]
    go_simp
    simp only [Sh.rdO,and_self]
  · exact HF.out.tx
set_option maxHeartbeats 1000000 in
theorem vseat_any (b:Nat) (s:ByteArray) (w:World) (h:w.heap[b]? = some (BT s)) (hs:s.size<=maxLen) :
    Calls Tryz.prog 31 #[.pointer (some ⟨b,0,none⟩)] w fun e w'=>e = .returned (.agg #[.int .i64 (Sh.rdZ s).1,.int .i64 (Sh.rdZ s).2.1,.string (Sh.rdZ s).2.2])/\∃ t,Tx b t w w':=by
  obtain ⟨A,hA⟩:∃ n,n = w.heap.size:=⟨_,rfl⟩
  obtain ⟨W,hW⟩:∃ W,W = w.alloc (.cells #[.int .i64 0,.int .i64 0,.string ⟨#[]⟩] 60):=⟨_,rfl⟩
  have HT0:Hid (Tr b A s (.cells #[.int .i64 0,.int .i64 0,.string ⟨#[]⟩] 60) w W):=by show Tr _ _ _ _ _ _;rw [hW,hA];exact tr_new h _
  have HZ0:Hid (s.size<=maxLen):=hs
  have HW:Hid (W = w.alloc (.cells #[.int .i64 0,.int .i64 0,.string ⟨#[]⟩] 60)/\A = w.heap.size):=⟨hW,hA⟩
  clear h hs hW hA
  go_enter Tryz.func31,Tryz.ntmps31
  go_wp2_with fail
  rw [← HW.out.1,← HW.out.2]
  clear HW
  refine (num_any' b 6 s _ HT0.out.tx.box HZ0.out).mono ?_
  rintro e w1 ⟨rfl,hx⟩
  have HX1:Hid (Tr b A (Sh.dr 6 s) (.cells #[.int .i64 0,.int .i64 0,.string ⟨#[]⟩] 60) w w1):=HT0.out.call hx
  have c0:=cell_at HX1.out.at_ 0
  have c1:=cell_at HX1.out.at_ 1
  have c2:=cell_at HX1.out.at_ 2
  have f0:=fr_at HX1.out.at_
  simp at c0 c1 c2
  clear hx HT0
  have HT1:Hid (Tr b A (Sh.dr 6 s) (.cells #[.int .i64 (Sh.nm 6 s),.int .i64 0,.string ⟨#[]⟩] 60) w (w1.setCell ⟨A,0,none⟩ (.int .i64 (Sh.nm 6 s)))):=(HX1.out.set 0 (.int .i64 (Sh.nm 6 s)))
  have HZ1:Hid ((Sh.dr 6 s).size<=maxLen):=Nat.le_trans (Sh.dr_size _ _) HZ0.out
  go_wp2_with fail
  clear c0 c1 c2 f0 HX1 HZ0
  refine (num_any' b 6 (Sh.dr 6 s) _ HT1.out.tx.box HZ1.out).mono ?_
  rintro e w2 ⟨rfl,hx⟩
  have HX2:Hid (Tr b A (Sh.dr 6 (Sh.dr 6 s)) (.cells #[.int .i64 (Sh.nm 6 s),.int .i64 0,.string ⟨#[]⟩] 60) w w2):=HT1.out.call hx
  have c0:=cell_at HX2.out.at_ 0
  have c1:=cell_at HX2.out.at_ 1
  have c2:=cell_at HX2.out.at_ 2
  have f0:=fr_at HX2.out.at_
  simp at c0 c1 c2
  clear hx HT1
  have HT2:Hid (Tr b A (Sh.dr 6 (Sh.dr 6 s)) (.cells #[.int .i64 (Sh.nm 6 s),.int .i64 (Sh.nm 6 (Sh.dr 6 s)),.string ⟨#[]⟩] 60) w (w2.setCell ⟨A,1,none⟩ (.int .i64 (Sh.nm 6 (Sh.dr 6 s))))):=(HX2.out.set 1 (.int .i64 (Sh.nm 6 (Sh.dr 6 s))))
  have HZ2:Hid ((Sh.dr 6 (Sh.dr 6 s)).size<=maxLen):=Nat.le_trans (Sh.dr_size _ _) HZ1.out
  go_wp2_with fail
  clear c0 c1 c2 f0 HX2 HZ1
  refine (rest_any b (Sh.dr 6 (Sh.dr 6 s)) _ HT2.out.tx.box HZ2.out).mono ?_
  rintro e w3 ⟨rfl,hx⟩
  have HX3:Hid (Tr b A (Sh.dr (Sh.dr 6 (Sh.dr 6 s)).size (Sh.dr 6 (Sh.dr 6 s))) (.cells #[.int .i64 (Sh.nm 6 s),.int .i64 (Sh.nm 6 (Sh.dr 6 s)),.string ⟨#[]⟩] 60) w w3):=HT2.out.call hx
  have c0:=cell_at HX3.out.at_ 0
  have c1:=cell_at HX3.out.at_ 1
  have c2:=cell_at HX3.out.at_ 2
  have f0:=fr_at HX3.out.at_
  simp at c0 c1 c2
  clear hx HT2
  have HT3:Hid (Tr b A (Sh.dr (Sh.dr 6 (Sh.dr 6 s)).size (Sh.dr 6 (Sh.dr 6 s))) (.cells #[.int .i64 (Sh.nm 6 s),.int .i64 (Sh.nm 6 (Sh.dr 6 s)),.string (Sh.dr 6 (Sh.dr 6 s))] 60) w (w3.setCell ⟨A,2,none⟩ (.string (Sh.dr 6 (Sh.dr 6 s))))):=(HX3.out.set 2 (.string (Sh.dr 6 (Sh.dr 6 s))))
  have HF:Hid (Tr b A (Sh.dr (Sh.dr 6 (Sh.dr 6 s)).size (Sh.dr 6 (Sh.dr 6 s))) (.cells #[.int .i64 (Sh.nm 6 s),.int .i64 (Sh.nm 6 (Sh.dr 6 s)),.string (Sh.dr 6 (Sh.dr 6 s))] 60) w ((((w3.setCell ⟨A,2,none⟩ (.string (Sh.dr 6 (Sh.dr 6 s)))).setCell ⟨A,0,none⟩ (.int .i64 (Sh.nm 6 s))).setCell ⟨A,1,none⟩ (.int .i64 (Sh.nm 6 (Sh.dr 6 s)))).setCell ⟨A,2,none⟩ (.string (Sh.dr 6 (Sh.dr 6 s))))):=(((HT3.out.set 0 (.int .i64 (Sh.nm 6 s))).set 1 (.int .i64 (Sh.nm 6 (Sh.dr 6 s)))).set 2 (.string (Sh.dr 6 (Sh.dr 6 s))))
  go_wp2
  generalize ((((w3.setCell ⟨A,2,none⟩ (.string (Sh.dr 6 (Sh.dr 6 s)))).setCell ⟨A,0,none⟩ (.int .i64 (Sh.nm 6 s))).setCell ⟨A,1,none⟩ (.int .i64 (Sh.nm 6 (Sh.dr 6 s)))).setCell ⟨A,2,none⟩ (.string (Sh.dr 6 (Sh.dr 6 s)))) = WF at HF ⊢
  have d0:=cell_at HF.out.at_ 0
  have d1:=cell_at HF.out.at_ 1
  have d2:=cell_at HF.out.at_ 2
  simp at d0 d1 d2
  clear c0 HT3 HX3 f0
  refine bodyPost_ret (v:=.agg #[.int .i64 (Sh.rdZ s).1,.int .i64 (Sh.rdZ s).2.1,.string (Sh.rdZ s).2.2]) ?_ rfl ⟨rfl,(Sh.dr (Sh.dr 6 (Sh.dr 6 s)).size (Sh.dr 6 (Sh.dr 6 s))),?_⟩
  · rw [results_cell1 rfl]
    go_simp
    simp only [Sh.rdZ,and_self]
  · exact HF.out.tx
set_option maxHeartbeats 1000000 in
theorem vrun_any (b:Nat) (s:ByteArray) (w:World) (h:w.heap[b]? = some (BT s)) (hs:s.size<=maxLen) :
    Calls Tryz.prog 52 #[.pointer (some ⟨b,0,none⟩)] w fun e w'=>e = .returned (.agg #[.int .i64 (Sh.rdR s).1,.string (Sh.rdR s).2])/\∃ t,Tx b t w w':=by
  obtain ⟨A,hA⟩:∃ n,n = w.heap.size:=⟨_,rfl⟩
  obtain ⟨W,hW⟩:∃ W,W = w.alloc (.cells #[.int .i64 0,.string ⟨#[]⟩] 67):=⟨_,rfl⟩
  have HT0:Hid (Tr b A s (.cells #[.int .i64 0,.string ⟨#[]⟩] 67) w W):=by show Tr _ _ _ _ _ _;rw [hW,hA];exact tr_new h _
  have HZ0:Hid (s.size<=maxLen):=hs
  have HW:Hid (W = w.alloc (.cells #[.int .i64 0,.string ⟨#[]⟩] 67)/\A = w.heap.size):=⟨hW,hA⟩
  clear h hs hW hA
  go_enter Tryz.func52,Tryz.ntmps52
  go_wp2_with fail
  rw [← HW.out.1,← HW.out.2]
  clear HW
  refine (num_any' b 4 s _ HT0.out.tx.box HZ0.out).mono ?_
  rintro e w1 ⟨rfl,hx⟩
  have HX1:Hid (Tr b A (Sh.dr 4 s) (.cells #[.int .i64 0,.string ⟨#[]⟩] 67) w w1):=HT0.out.call hx
  have c0:=cell_at HX1.out.at_ 0
  have c1:=cell_at HX1.out.at_ 1
  have f0:=fr_at HX1.out.at_
  simp at c0 c1
  clear hx HT0
  have HT1:Hid (Tr b A (Sh.dr 4 s) (.cells #[.int .i64 (Sh.nm 4 s),.string ⟨#[]⟩] 67) w (w1.setCell ⟨A,0,none⟩ (.int .i64 (Sh.nm 4 s)))):=(HX1.out.set 0 (.int .i64 (Sh.nm 4 s)))
  have HZ1:Hid ((Sh.dr 4 s).size<=maxLen):=Nat.le_trans (Sh.dr_size _ _) HZ0.out
  go_wp2_with fail
  clear c0 c1 f0 HX1 HZ0
  refine (rest_any b (Sh.dr 4 s) _ HT1.out.tx.box HZ1.out).mono ?_
  rintro e w2 ⟨rfl,hx⟩
  have HX2:Hid (Tr b A (Sh.dr (Sh.dr 4 s).size (Sh.dr 4 s)) (.cells #[.int .i64 (Sh.nm 4 s),.string ⟨#[]⟩] 67) w w2):=HT1.out.call hx
  have c0:=cell_at HX2.out.at_ 0
  have c1:=cell_at HX2.out.at_ 1
  have f0:=fr_at HX2.out.at_
  simp at c0 c1
  clear hx HT1
  have HT2:Hid (Tr b A (Sh.dr (Sh.dr 4 s).size (Sh.dr 4 s)) (.cells #[.int .i64 (Sh.nm 4 s),.string (Sh.dr 4 s)] 67) w (w2.setCell ⟨A,1,none⟩ (.string (Sh.dr 4 s)))):=(HX2.out.set 1 (.string (Sh.dr 4 s)))
  have HF:Hid (Tr b A (Sh.dr (Sh.dr 4 s).size (Sh.dr 4 s)) (.cells #[.int .i64 (Sh.nm 4 s),.string (Sh.dr 4 s)] 67) w (((w2.setCell ⟨A,1,none⟩ (.string (Sh.dr 4 s))).setCell ⟨A,0,none⟩ (.int .i64 (Sh.nm 4 s))).setCell ⟨A,1,none⟩ (.string (Sh.dr 4 s)))):=((HT2.out.set 0 (.int .i64 (Sh.nm 4 s))).set 1 (.string (Sh.dr 4 s)))
  go_wp2
  generalize (((w2.setCell ⟨A,1,none⟩ (.string (Sh.dr 4 s))).setCell ⟨A,0,none⟩ (.int .i64 (Sh.nm 4 s))).setCell ⟨A,1,none⟩ (.string (Sh.dr 4 s))) = WF at HF ⊢
  have d0:=cell_at HF.out.at_ 0
  have d1:=cell_at HF.out.at_ 1
  simp at d0 d1
  clear c0 HT2 HX2 f0
  refine bodyPost_ret (v:=.agg #[.int .i64 (Sh.rdR s).1,.string (Sh.rdR s).2]) ?_ rfl ⟨rfl,(Sh.dr (Sh.dr 4 s).size (Sh.dr 4 s)),?_⟩
  · rw [results_cell1 rfl]
    go_simp
    simp only [Sh.rdR,and_self]
  · exact HF.out.tx
set_option maxHeartbeats 1000000 in
theorem ventry_any (b:Nat) (s:ByteArray) (w:World) (h:w.heap[b]? = some (BT s)) (hs:s.size<=maxLen) :
    Calls Tryz.prog 53 #[.pointer (some ⟨b,0,none⟩)] w fun e w'=>e = .returned (.agg #[.string (Sh.rdE s).1,.int .i64 (Sh.rdE s).2.1,.int .i64 (Sh.rdE s).2.2.1,.int .i64 (Sh.rdE s).2.2.2])/\∃ t,Tx b t w w':=by
  obtain ⟨A,hA⟩:∃ n,n = w.heap.size:=⟨_,rfl⟩
  obtain ⟨W,hW⟩:∃ W,W = w.alloc (.cells #[.string ⟨#[]⟩,.int .i64 0,.int .i64 0,.int .i64 0] 91):=⟨_,rfl⟩
  have HT0:Hid (Tr b A s (.cells #[.string ⟨#[]⟩,.int .i64 0,.int .i64 0,.int .i64 0] 91) w W):=by show Tr _ _ _ _ _ _;rw [hW,hA];exact tr_new h _
  have HZ0:Hid (s.size<=maxLen):=hs
  have HW:Hid (W = w.alloc (.cells #[.string ⟨#[]⟩,.int .i64 0,.int .i64 0,.int .i64 0] 91)/\A = w.heap.size):=⟨hW,hA⟩
  clear h hs hW hA
  go_enter Tryz.func53,Tryz.ntmps53
  go_wp2_with fail
  rw [← HW.out.1,← HW.out.2]
  clear HW
  refine (num_any' b 6 s _ HT0.out.tx.box HZ0.out).mono ?_
  rintro e w1 ⟨rfl,hx⟩
  have HX1:Hid (Tr b A (Sh.dr 6 s) (.cells #[.string ⟨#[]⟩,.int .i64 0,.int .i64 0,.int .i64 0] 91) w w1):=HT0.out.call hx
  have c0:=cell_at HX1.out.at_ 0
  have c1:=cell_at HX1.out.at_ 1
  have c2:=cell_at HX1.out.at_ 2
  have c3:=cell_at HX1.out.at_ 3
  have f0:=fr_at HX1.out.at_
  simp at c0 c1 c2 c3
  clear hx HT0
  have HT1:Hid (Tr b A (Sh.dr 6 s) (.cells #[.string ⟨#[]⟩,.int .i64 (Sh.nm 6 s),.int .i64 0,.int .i64 0] 91) w (w1.setCell ⟨A,1,none⟩ (.int .i64 (Sh.nm 6 s)))):=(HX1.out.set 1 (.int .i64 (Sh.nm 6 s)))
  have HZ1:Hid ((Sh.dr 6 s).size<=maxLen):=Nat.le_trans (Sh.dr_size _ _) HZ0.out
  go_wp2_with fail
  clear c0 c1 c2 c3 f0 HX1 HZ0
  refine (handle_any b (Sh.dr 6 s) _ HT1.out.tx.box HZ1.out).mono ?_
  rintro e w2 ⟨rfl,hx⟩
  have HX2:Hid (Tr b A (Sh.dr 6 (Sh.dr 1 (Sh.dr 6 s))) (.cells #[.string ⟨#[]⟩,.int .i64 (Sh.nm 6 s),.int .i64 0,.int .i64 0] 91) w w2):=HT1.out.call hx
  have c0:=cell_at HX2.out.at_ 0
  have c1:=cell_at HX2.out.at_ 1
  have c2:=cell_at HX2.out.at_ 2
  have c3:=cell_at HX2.out.at_ 3
  have f0:=fr_at HX2.out.at_
  simp at c0 c1 c2 c3
  clear hx HT1
  have HT2:Hid (Tr b A (Sh.dr 6 (Sh.dr 1 (Sh.dr 6 s))) (.cells #[.string ⟨#[]⟩,.int .i64 (Sh.nm 6 s),.int .i64 (Sh.rdH (Sh.dr 6 s)).1,.int .i64 (Sh.rdH (Sh.dr 6 s)).2] 91) w ((w2.setCell ⟨A,2,none⟩ (.int .i64 (Sh.rdH (Sh.dr 6 s)).1)).setCell ⟨A,3,none⟩ (.int .i64 (Sh.rdH (Sh.dr 6 s)).2))):=((HX2.out.set 2 (.int .i64 (Sh.rdH (Sh.dr 6 s)).1)).set 3 (.int .i64 (Sh.rdH (Sh.dr 6 s)).2))
  have HZ2:Hid ((Sh.dr 6 (Sh.dr 1 (Sh.dr 6 s))).size<=maxLen):=Nat.le_trans (Nat.le_trans (Sh.dr_size _ _) (Sh.dr_size _ _)) HZ1.out
  go_wp2_with fail
  clear c0 c1 c2 c3 f0 HX2 HZ1
  refine (rest_any b (Sh.dr 6 (Sh.dr 1 (Sh.dr 6 s))) _ HT2.out.tx.box HZ2.out).mono ?_
  rintro e w3 ⟨rfl,hx⟩
  have HX3:Hid (Tr b A (Sh.dr (Sh.dr 6 (Sh.dr 1 (Sh.dr 6 s))).size (Sh.dr 6 (Sh.dr 1 (Sh.dr 6 s)))) (.cells #[.string ⟨#[]⟩,.int .i64 (Sh.nm 6 s),.int .i64 (Sh.rdH (Sh.dr 6 s)).1,.int .i64 (Sh.rdH (Sh.dr 6 s)).2] 91) w w3):=HT2.out.call hx
  have c0:=cell_at HX3.out.at_ 0
  have c1:=cell_at HX3.out.at_ 1
  have c2:=cell_at HX3.out.at_ 2
  have c3:=cell_at HX3.out.at_ 3
  have f0:=fr_at HX3.out.at_
  simp at c0 c1 c2 c3
  clear hx HT2
  have HT3:Hid (Tr b A (Sh.dr (Sh.dr 6 (Sh.dr 1 (Sh.dr 6 s))).size (Sh.dr 6 (Sh.dr 1 (Sh.dr 6 s)))) (.cells #[.string (Sh.dr 6 (Sh.dr 1 (Sh.dr 6 s))),.int .i64 (Sh.nm 6 s),.int .i64 (Sh.rdH (Sh.dr 6 s)).1,.int .i64 (Sh.rdH (Sh.dr 6 s)).2] 91) w (w3.setCell ⟨A,0,none⟩ (.string (Sh.dr 6 (Sh.dr 1 (Sh.dr 6 s)))))):=(HX3.out.set 0 (.string (Sh.dr 6 (Sh.dr 1 (Sh.dr 6 s)))))
  have HF:Hid (Tr b A (Sh.dr (Sh.dr 6 (Sh.dr 1 (Sh.dr 6 s))).size (Sh.dr 6 (Sh.dr 1 (Sh.dr 6 s)))) (.cells #[.string (Sh.dr 6 (Sh.dr 1 (Sh.dr 6 s))),.int .i64 (Sh.nm 6 s),.int .i64 (Sh.rdH (Sh.dr 6 s)).1,.int .i64 (Sh.rdH (Sh.dr 6 s)).2] 91) w (((((w3.setCell ⟨A,0,none⟩ (.string (Sh.dr 6 (Sh.dr 1 (Sh.dr 6 s))))).setCell ⟨A,0,none⟩ (.string (Sh.dr 6 (Sh.dr 1 (Sh.dr 6 s))))).setCell ⟨A,1,none⟩ (.int .i64 (Sh.nm 6 s))).setCell ⟨A,2,none⟩ (.int .i64 (Sh.rdH (Sh.dr 6 s)).1)).setCell ⟨A,3,none⟩ (.int .i64 (Sh.rdH (Sh.dr 6 s)).2))):=((((HT3.out.set 0 (.string (Sh.dr 6 (Sh.dr 1 (Sh.dr 6 s))))).set 1 (.int .i64 (Sh.nm 6 s))).set 2 (.int .i64 (Sh.rdH (Sh.dr 6 s)).1)).set 3 (.int .i64 (Sh.rdH (Sh.dr 6 s)).2))
  go_wp2
  generalize (((((w3.setCell ⟨A,0,none⟩ (.string (Sh.dr 6 (Sh.dr 1 (Sh.dr 6 s))))).setCell ⟨A,0,none⟩ (.string (Sh.dr 6 (Sh.dr 1 (Sh.dr 6 s))))).setCell ⟨A,1,none⟩ (.int .i64 (Sh.nm 6 s))).setCell ⟨A,2,none⟩ (.int .i64 (Sh.rdH (Sh.dr 6 s)).1)).setCell ⟨A,3,none⟩ (.int .i64 (Sh.rdH (Sh.dr 6 s)).2)) = WF at HF ⊢
  have d0:=cell_at HF.out.at_ 0
  have d1:=cell_at HF.out.at_ 1
  have d2:=cell_at HF.out.at_ 2
  have d3:=cell_at HF.out.at_ 3
  simp at d0 d1 d2 d3
  clear c0 HT3 HX3 f0
  refine bodyPost_ret (v:=.agg #[.string (Sh.rdE s).1,.int .i64 (Sh.rdE s).2.1,.int .i64 (Sh.rdE s).2.2.1,.int .i64 (Sh.rdE s).2.2.2]) ?_ rfl ⟨rfl,(Sh.dr (Sh.dr 6 (Sh.dr 1 (Sh.dr 6 s))).size (Sh.dr 6 (Sh.dr 1 (Sh.dr 6 s)))),?_⟩
  · rw [results_cell1 rfl]
    go_simp
    simp only [Sh.rdE,and_self]
  · exact HF.out.tx
abbrev VAx (a:Int × Int × Int × Int):Value:=.agg #[.int .i64 a.1,.int .i64 a.2.1,.int .i64 a.2.2.1,.int .i64 a.2.2.2]
theorem Tr.below {b A:Nat} {s:ByteArray} {o:Obj} {w w1 w2:World} (h:Tr b A s o w w1) (k:Below w1.heap.size w1 w2):Tr b A s o w w2 :=
  ⟨⟨(k.block b (Array.getElem?_eq_some_iff.1 h.tx.box).1).trans h.tx.box,grown_trans h.tx.gr (grown_of_below k _)⟩,(k.block A (Array.getElem?_eq_some_iff.1 h.at_).1).trans h.at_,h.ne,h.new⟩
set_option maxHeartbeats 1000000 in
theorem vattr_any (b:Nat) (s:ByteArray) (w:World) (h:w.heap[b]? = some (BT s)) (hs:s.size<=maxLen) :
    Calls Tryz.prog 51 #[.pointer (some ⟨b,0,none⟩)] w fun e w'=>e = .returned (VAx (Sh.rdA s))/\Tx b (Sh.dr 12 s) w w':=by
  obtain ⟨a,ha⟩:∃ a,Sh.rdA s = a:=⟨_,rfl⟩
  have HU:Hid (Ks.Rs.At.unpOut (Sh.tk 12 s) = VAx a):=by show _ = _;rw [← ha];exact Ks.Rs.Re.ua_out _
  rw [ha]
  clear ha
  obtain ⟨A,hA⟩:∃ n,n = w.heap.size:=⟨_,rfl⟩
  obtain ⟨W,hW⟩:∃ W,W = w.alloc (.cells #[.int .i64 0,.int .i64 0,.int .i64 0,.int .i64 0] 48):=⟨_,rfl⟩
  have HT0:Hid (Tr b A s (.cells #[.int .i64 0,.int .i64 0,.int .i64 0,.int .i64 0] 48) w W):=by show Tr _ _ _ _ _ _;rw [hW,hA];exact tr_new h _
  have HW:Hid (W = w.alloc (.cells #[.int .i64 0,.int .i64 0,.int .i64 0,.int .i64 0] 48)/\A = w.heap.size):=⟨hW,hA⟩
  have HZ:Hid (s.size<=maxLen):=hs
  clear h hs hW hA
  go_enter Tryz.func51,Tryz.ntmps51
  go_wp2_with fail
  rw [← HW.out.1,← HW.out.2]
  clear HW
  refine (take_any b 12 s _ HT0.out.tx.box HZ.out).mono ?_
  rintro e w1 ⟨rfl,rfl⟩
  have HT1:Hid (Tr b A (Sh.dr 12 s) (.cells #[.int .i64 0,.int .i64 0,.int .i64 0,.int .i64 0] 48) w (W.setCell ⟨b,0,none⟩ (.string (Sh.dr 12 s)))):=HT0.out.call (tx_set HT0.out.tx.box _)
  clear HT0
  go_wp2_with fail
  refine (Ks.Rs.aunpack_any (Sh.tk 12 s) _).mono ?_
  rintro e w2 ⟨rfl,hb⟩
  rw [HU.out]
  have HT2:Hid (Tr b A (Sh.dr 12 s) (.cells #[.int .i64 0,.int .i64 0,.int .i64 0,.int .i64 0] 48) w w2):=HT1.out.below hb
  have c0:=cell_at HT2.out.at_ 0
  have c1:=cell_at HT2.out.at_ 1
  have c2:=cell_at HT2.out.at_ 2
  have c3:=cell_at HT2.out.at_ 3
  have f0:=fr_at HT2.out.at_
  have hl:=(Array.getElem?_eq_some_iff.1 HT2.out.at_).1
  simp at c0 c1 c2 c3
  clear hb HT1
  have HF:Hid (Tr b A (Sh.dr 12 s) (.cells #[.int .i64 a.1,.int .i64 a.2.1,.int .i64 a.2.2.1,.int .i64 a.2.2.2] 48) w (((((w2.setCell ⟨A,0,none⟩ (.int .i64 a.1)).setCell ⟨A,1,none⟩ (.int .i64 a.2.1)).setCell ⟨A,2,none⟩ (.int .i64 a.2.2.1)).setCell ⟨A,3,none⟩ (.int .i64 a.2.2.2)).alloc (.cells #[.int .i64 a.1,.int .i64 a.2.1,.int .i64 a.2.2.1,.int .i64 a.2.2.2] 48))):=((((HT2.out.set 0 _).set 1 _).set 2 _).set 3 _).below ((Below.refl _ _).alloc (Nat.le_refl _) _)
  go_wp2
  generalize (((((w2.setCell ⟨A,0,none⟩ (.int .i64 a.1)).setCell ⟨A,1,none⟩ (.int .i64 a.2.1)).setCell ⟨A,2,none⟩ (.int .i64 a.2.2.1)).setCell ⟨A,3,none⟩ (.int .i64 a.2.2.2)).alloc (.cells #[.int .i64 a.1,.int .i64 a.2.1,.int .i64 a.2.2.1,.int .i64 a.2.2.2] 48)) = WF at HF ⊢
  have d0:=cell_at HF.out.at_ 0
  have d1:=cell_at HF.out.at_ 1
  have d2:=cell_at HF.out.at_ 2
  have d3:=cell_at HF.out.at_ 3
  simp at d0 d1 d2 d3
  clear c0 c1 c2 c3 HT2 f0 hl
  refine bodyPost_ret (v:=VAx a) ?_ rfl ⟨rfl,?_⟩
  · rw [results_cell1 rfl]
    go_simp
  · exact HF.out.tx
end Go.Proofs.YtggoccfddnpelaaGreat
namespace Go.Proofs.YtggoccfddnpelaaGreat.Ks
set_option maxRecDepth 100000
namespace App
open Go.RowKit
section
variable {P:Program} (w:World)
theorem run_room {size:Nat} (t tx ty e:TypeId) (i:TypeInfo) (hsz:i.size = size) (ht:P.underlying t = some (.slice e)) (hi:P.info? e = some i)
    (g sLen sCap:Nat) (cur:Array Value) (hg:w.heap[g]? = some (.cells cur e (0,0)))
    (x:Value) (m:Nat) (news:List Value) (hs:Src P size tx x m news w)
    (hroom:sLen + m<=sCap) (hfit:sLen * i.size + news.length<=cur.size) :
    (Builtin.append_ #[t,tx] ty #[.slice (some ⟨g,0,none⟩) sLen sCap,x]).run P w =
      .ok (.slice (some ⟨g,0,none⟩) (sLen + m) sCap) (w.setRow g (cur.toList.take (sLen * i.size) ++ news ++ cur.toList.drop (sLen * i.size + news.length)).toArray):=by
  subst hsz
  have hst:=run_storeCells_at P g (sLen * i.size) e news 0 cur w hg (by simpa using hfit) hs.one
  simp only [Nat.add_zero] at hst
  rcases hs.kind with ⟨e',hk⟩ | hk <;> simp [Builtin.append_,run_underlying ht,run_underlying hk,sizeOf,typeInfo,hi,hs.len,hroom,hs.cells,Addr.add_lit,hst]
theorem run_own (base : Nat) (t tx ty e : TypeId) (i : TypeInfo) (z : Value) (size bytes : Nat) (ht : P.underlying t = some (.slice e)) (hi : P.info? e = some i) (hz : i.zero = some z)
    (hsize:i.size = size) (hby:i.bytes = bytes) (hzs:z.cells.size = size)
    (v:Value) (n:Nat) (xs:List Value) (hown:w.ownsRow base e size v n xs)
    (x:Value) (m:Nat) (news:List Value) (hs:Src P size tx x m news w)
    (h63:n + m<=maxLen) (hbytes:(n + m) * bytes<=140737488355328) (hbase:base<=w.heap.size) :
    ∃ v' w',(Builtin.append_ #[t,tx] ty #[v,x]).run P w = .ok v' w'/\w'.ownsRow base e size v' (n + m) (xs ++ news)/\w.grownBy w' v.ownBlock:=by
  subst hsize
  subst hby
  have hsmall:n + m<=9223372036854775807:=by simp only [maxLen] at h63;omega
  have hl:=hs.newsLen
  have hlen:(xs ++ news).length = (n + m) * i.size:=by rw [List.length_append,hown.1,hl,Nat.add_mul]
  have grown:∀ (old:Nat),old < n + m->∀ (row:Option Nat),
      (w.drew.alloc (.cells ((xs ++ news).toArray ++ Builtin.zeroCells z.cells (grownCap w (n + m) old e - (n + m))) e)).ownsRow base e i.size
        (.slice (some ⟨w.heap.size,0,none⟩) (n + m) (grownCap w (n + m) old e)) (n + m) (xs ++ news) /\
      w.grownBy (w.drew.alloc (.cells ((xs ++ news).toArray ++ Builtin.zeroCells z.cells (grownCap w (n + m) old e - (n + m))) e)) row:=by
    intro old ho row
    have hge:=grownCap_ge w (n + m) old e
    have hcm:grownCap w (n + m) old e<=maxLen:=grownCap_le_maxLen w (n + m) old e h63
    refine ⟨⟨hlen,.inr ⟨w.heap.size,_,_,rfl,hbase,heap_alloc_new w.drew _,hge,hcm,?_,?_⟩⟩,⟨rfl,rfl,rfl,by simp,fun k hk _=>Below.heap_alloc w.drew _ k hk⟩⟩
    · simp only [Array.size_append, List.size_toArray, size_zeroCells, hzs, hlen, ← Nat.add_mul]
      congr 1
      omega
    · simp only [Array.toList_append]
      rw [← hlen]
      exact List.take_left
  rcases hown.2 with ⟨rfl,rfl⟩ | ⟨g,cap,cur,rfl,hbg,hg,hnc,hcm,hcs,htake⟩
  · have hx : xs = [] := List.eq_nil_of_length_eq_zero (by simpa using hown.1)
    subst hx
    by_cases hm:m = 0
    · subst hm
      have hn:news = []:=List.eq_nil_of_length_eq_zero (by simpa using hl)
      subst hn
      refine ⟨.slice none 0 0,w,?_,World.ownsRow_nil w base e i.size,⟨rfl,rfl,rfl,Nat.le_refl _,fun _ _ _=>rfl⟩⟩
      rcases hs.kind with ⟨e',hk⟩ | hk <;> simp [Builtin.append_,run_underlying ht,run_underlying hk,sizeOf,typeInfo,hi,hs.len,hs.cells]
    · have hr := run_append_grow_src (P := P) w t tx ty e i z ht hi hz none 0 0 [] (run_firstCells_none w.drew _ _ _ _) x m news hs (by omega) (by omega) (growslice_fits (by omega) hbytes)
      have hgr:=grown 0 (by omega) (Value.ownBlock (.slice none 0 0))
      simp only [Nat.zero_add,List.nil_append] at hgr hr ⊢
      exact ⟨_,_,hr,hgr.1,hgr.2⟩
  · by_cases hroom : n + m ≤ cap
    · have hfit : n * i.size + news.length ≤ cur.size := by rw [hl, hcs, ← Nat.add_mul]; exact Nat.mul_le_mul_right _ hroom
      have hr:=run_room (P:=P) w t tx ty e i rfl ht hi g n cap cur hg x m news hs hroom hfit
      refine ⟨_,_,hr,⟨hlen,.inr ⟨g,cap,_,rfl,hbg,setRow_heap w g cur _ e _ hg,hroom,hcm,?_,?_⟩⟩,⟨rfl,rfl,rfl,by simp,fun k _ hk=>setRow_other w g k _ (fun e=>hk (by simp [Value.ownBlock,e]))⟩⟩
      · simp only [List.size_toArray, List.length_append, List.length_take, List.length_drop, Array.length_toList]
        omega
      · rw [htake, ← hlen]
        exact List.take_left
    · have holds : ∀ j u, xs[j]? = some u → w.cell? ((⟨g, 0, none⟩ : Addr).add j) = some u := hown.cells (g := g) rfl
      have hr:=run_append_grow_src (P:=P) w t tx ty e i z ht hi hz (some ⟨g,0,none⟩) n cap xs (run_firstCells_some w.drew _ _ _ _ _ xs hown.1 (by simpa using holds)) x m news hs (by omega) (by omega) (growslice_fits (by omega) hbytes)
      have hgr:=grown cap (by omega) (Value.ownBlock (.slice (some ⟨g,0,none⟩) n cap))
      exact ⟨_,_,hr,hgr.1,hgr.2⟩
theorem wpList_own {ops:Array Oper} {rest:List Oper} {o:Oper} {a:Act} {Q:Exit->Act->World->Prop} (hgd:o.guard = none) (s x:Operand) (t tx:TypeId)
    (ho:o.op = .call { callee:=.builtin .append,args:=#[s,x],argTypes:=#[t,tx] })
    (base:Nat) (e:TypeId) (i:TypeInfo) (z:Value) (size bytes:Nat) (ht:P.underlying t = some (.slice e)) (hi:P.info? e = some i) (hz:i.zero = some z)
    (hsize:i.size = size) (hby:i.bytes = bytes) (hzs:z.cells.size = size)
    (v:Value) (n:Nat) (xs:List Value) (hv:a.eval s = v) (hown:w.ownsRow base e size v n xs)
    (xv:Value) (m:Nat) (news:List Value) (hx:a.eval x = xv) (hs:Src P size tx xv m news w)
    (h63:n + m<=maxLen) (hbytes:(n + m) * bytes<=140737488355328) (hbase:base<=w.heap.size)
    (h:∀ v' w',w'.ownsRow base e size v' (n + m) (xs ++ news)->w.grownBy w' v.ownBlock->wpList P ops Q rest (a.put o.dst v') w'):wpList P ops Q (o :: rest) a w :=
  wpList_plain hgd fun _ hK=>by
    obtain ⟨v',w',hr,h2,h3⟩:=run_own (P:=P) w base t tx o.type e i z size bytes ht hi hz hsize hby hzs v n xs hown xv m news hs h63 hbytes hbase
    unfold Oper.wp execOp
    simp only [ho,resolve,invoke,builtin,Sem.run_bind,Sem.run_pure,Result.andThen_ok,List.map_toArray,List.map_cons,List.map_nil,hv,hx,hr]
    exact hK _ _ (h v' w' h2 h3)
end
/-- A block of two cells that an append onto an own row of another element type leaves alone. -/
theorem keep {w w':World} {base:Nat} {e size:Nat} {v:Value} {n:Nat} {xs:List Value} (h:w.ownsRow base e size v n xs) (hg:w.grownBy w' v.ownBlock) {b:Nat} {c:Array Value} {t:TypeId} {fr:Nat × Nat}
    (hb:w.heap[b]? = some (.cells c t fr)) (hne:t≠e):w'.heap[b]? = some (.cells c t fr):=by
  have hlt:b < w.heap.size:=by
    rcases Nat.lt_or_ge b w.heap.size with h' | h'
    · exact h'
    · rw [Array.getElem?_eq_none h'] at hb;cases hb
  rw [hg.block b hlt ?_,hb]
  intro heq
  rcases h.2 with ⟨rfl,_⟩ | ⟨g,cap,cur,rfl,hbg,hgg,hnc,hcm,hcs,htake⟩
  · simp [Value.ownBlock] at heq
  · simp only [Value.ownBlock, Option.some.injEq] at heq
    subst heq
    rw [hgg] at hb
    simp at hb
    exact hne hb.2.1.symm
theorem cell_of_two {w:World} {b:Nat} {x y:Value} {t:TypeId} {fr:Nat × Nat} (hb:w.heap[b]? = some (.cells #[x,y] t fr)):w.cell? ⟨b,0,none⟩ = some x/\w.cell? ⟨b,1,none⟩ = some y:=by
  constructor <;> simp [World.cell?,hb]
theorem three_new (W:World) (g:Nat) (hg:g = W.heap.size) (a b c:Value) (T:TypeId):∀ j u,[a,b,c][j]? = some u->(W.alloc (.cells #[a,b,c] T)).cell? ((⟨g,0,none⟩:Addr).add j) = some u:=by
  subst hg
  intro j u hj
  rw [Go.WideShapes.add_plain]
  match j,hj with
  | 0,hj=>simp at hj;subst hj;simp
  | 1,hj=>simp at hj;subst hj;simp
  | 2,hj=>simp at hj;subst hj;simp
theorem two_new (W:World) (g:Nat) (hg:g = W.heap.size) (a b:Value) (T:TypeId):∀ j u,[a,b][j]? = some u->(W.alloc (.cells #[a,b] T)).cell? ((⟨g,0,none⟩:Addr).add j) = some u:=by
  subst hg
  intro j u hj
  rw [Go.WideShapes.add_plain]
  match j,hj with
  | 0,hj=>simp at hj;subst hj;simp
  | 1,hj=>simp at hj;subst hj;simp
theorem one3 (a b c:Int):∀ u∈[Value.int .u8 a,.int .u8 b,.int .u8 c],u.oneCell' = true:=by
  intro u hu
  simp at hu
  rcases hu with rfl | rfl | rfl <;> rfl
theorem one2 (a:Int) (s:ByteArray):∀ u∈[Value.int .i64 a,.string s],u.oneCell' = true:=by
  intro u hu
  simp at hu
  rcases hu with rfl | rfl <;> rfl
end App
end Go.Proofs.YtggoccfddnpelaaGreat.Ks
namespace Go.Proofs.YtggoccfddnpelaaGreat.Ks
open Go.ChangeShapes Go.WideShapes Go.ChangeAt Go.RowKit Go.Deep
set_option maxRecDepth 100000
theorem own_drewN {w:World} {base:Nat} {e:TypeId} {size:Nat} {v:Value} {n:Nat} {xs:List Value} (h:w.ownsRow base e size v n xs) (k:Nat):(w.drewN k).ownsRow base e size v n xs:=h
theorem extract_rest (S:ByteArray) (a:Nat):(S.extract a S.size).data.toList = S.data.toList.drop a:=by
  rw [Pl.extract_txt,Pl.txt_data,List.take_of_length_le (by simp)]
theorem info70:(Tryz.prog.info? 70).map (fun i=>(i.zero,i.size,i.bytes)) = some (some (.agg #[.int .i64 0,.string ⟨#[]⟩]),2,24):=by kernel_rfl
set_option maxHeartbeats 2000000 in
theorem unpack_any (s : ByteArray) (w : World) (hs : s.size ≤ 1048576) :
    Calls Tryz.prog 27 #[.string s] w fun e w'=>∃ r,e = .returned (.tuple #[r,.int .i64 (Pl.unpErr s.data.toList)]) /\
      w'.ownsRow w.heap.size 70 2 r (Pl.unpOut s.data.toList).length (cellsOf (Pl.unpOut s.data.toList))/\Below w.heap.size w w':=by
  obtain ⟨i0,hi,hz0,hz1,hz2⟩:=info_parts info70
  have hsl:s.data.toList.length = s.size:=by simp
  have HM0:Hid (Pl.Mid s.data.toList [] 1 s.data.toList):=Pl.Mid.start _
  obtain ⟨L,hL⟩:∃ L,s.data.toList = L:=⟨_,rfl⟩
  rw [hL] at hsl ⊢
  have HL:Hid (s.data.toList = L):=hL
  have HSL:Hid (L.length = s.size):=hsl
  clear hL hsl
  go_enter Tryz.func27,Tryz.ntmps27
  go_wp2
  go_step3
  go_wp2
  go_step3
  go_wp2
  go_loopw [0,4,5] (fun z r t wr=>∃ (S:ByteArray) (done:List (Int × ByteArray)) (la:Int),z = .string S/\t = .int .i64 la/\S.size<=1048576/\la<=255/\Pl.Mid L done la S.data.toList /\
      wr.ownsRow w.heap.size 70 2 r done.length (cellsOf done)/\Below w.heap.size w wr) (fun z _ _ _=>match z with | .string S=>S.size | _=>0)
  case atStart=>exact ⟨s,[],1,rfl,rfl,hs,by omega,by rw [HL.out];exact Pl.Mid.start L,World.ownsRow_nil _ _ _ _,Below.refl _ _⟩
  case round =>
    obtain ⟨S,done,la,rfl,rfl,hS,hla,hmid,hown,hbl⟩:=hrel
    have hsz:=hbl.size
    have HM:Hid (Pl.Mid L done la S.data.toList):=hmid
    have hdl:done.length<=1048576:=by have:=hmid.1;have:=HSL.out;omega
    have hln:S.data.toList.length = S.size:=by simp
    clear hmid
    by_cases h0:S.size = 0
    · have hnil : S.data.toList = [] := List.eq_nil_of_length_eq_zero (by omega)
      have hem:S.toList.isEmpty = true:=by rw [ByteArray.toList_eq,hnil];rfl
      have H:Hid (Pl.unpOut L = done/\Pl.unpErr L = 0):=by
        have:=HM.out
        rw [hnil] at this
        exact this.finish
      clear hnil hln h0
      go_wp2
      rw [Exit.noGoto_ret]
      go_ret2
      rw [H.out.1,H.out.2]
      exact ⟨_,rfl,hown,hbl⟩
    · have hnn : S.data.toList ≠ [] := by
        intro h
        rw [h] at hln
        simp at hln
        omega
      have hne:S.toList.isEmpty = false:=by rw [ByteArray.toList_eq,List.isEmpty_eq_false_iff];exact hnn
      have HNN:Hid (S.data.toList≠[]):=hnn
      clear hnn
      by_cases h1:S.size < 3
      · have H : Hid (Pl.unpOut L = [] ∧ Pl.unpErr L = 10) := HM.out.fail HNN.out (by simp [Pl.stepErr, hln, h1]) (by decide)
        clear hln
        go_wp2
        rw [Exit.noGoto_ret]
        go_ret2
        rw [H.out.1,H.out.2]
        exact ⟨_,rfl,World.ownsRow_nil _ _ _ _,hbl⟩
      · have p0 : 0 < S.size := by omega
        have p1:1 < S.size:=by omega
        have p2:2 < S.size:=by omega
        have e0:Pl.tagOf S.data.toList = ((S[0]'p0).toNat:Int):=by rw [Pl.tagOf,Pl.getD_at S 0 p0]
        have e1:Pl.lenOf S.data.toList = 256 * (S[1]'p1).toNat + (S[2]'p2).toNat:=by rw [Pl.lenOf,Pl.getD_at S 1 p1,Pl.getD_at S 2 p2]
        have b0:(S[0]'p0).toNat < 256:=(S[0]'p0).toNat_lt
        have b1:(S[1]'p1).toNat < 256:=(S[1]'p1).toNat_lt
        have b2:(S[2]'p2).toNat < 256:=(S[2]'p2).toNat_lt
        by_cases h2:(S[0]'p0).toNat = 0
        · have h2' : (((S[0]'p0).toNat : Int) == 0) = true := by simp; omega
          have H:Hid (Pl.unpOut L = []/\Pl.unpErr L = 4):=HM.out.fail HNN.out (by simp [Pl.stepErr,hln,h1,e0,h2]) (by decide)
          clear e0 e1 hln h2
          go_wp2
          rw [Exit.noGoto_ret]
          go_ret2
          rw [H.out.1,H.out.2]
          exact ⟨_,rfl,World.ownsRow_nil _ _ _ _,hbl⟩
        · have h2' : (((S[0]'p0).toNat : Int) == 0) = false := by simp; omega
          by_cases h3:((S[0]'p0).toNat:Int) < la
          · have H : Hid (Pl.unpOut L = [] ∧ Pl.unpErr L = 11) := HM.out.fail HNN.out (by
              unfold Pl.stepErr
              rw [e0,hln,if_neg h1,if_neg (by omega),if_pos h3]) (by decide)
            clear e0 e1 hln h2
            go_wp2
            rw [Exit.noGoto_ret]
            go_ret2
            rw [H.out.1,H.out.2]
            exact ⟨_,rfl,World.ownsRow_nil _ _ _ _,hbl⟩
          · have q1 : (1 : Int) < (S.size : Int) := by omega
            have q2:(2:Int) < (S.size:Int):=by omega
            by_cases h4:(S.size:Int) < 3 + ((S[1]'p1).toNat:Int) * 256 + ((S[2]'p2).toNat:Int)
            · have H : Hid (Pl.unpOut L = [] ∧ Pl.unpErr L = 10) := HM.out.fail HNN.out (by
                unfold Pl.stepErr
                rw [e0,e1,hln,if_neg h1,if_neg (by omega),if_neg h3,if_pos (by omega)]) (by decide)
              clear e0 e1 hln h2
              go_wp2
              go_quiet (fail)
              go_wp2
              rw [Exit.noGoto_ret]
              go_ret2
              rw [H.out.1,H.out.2]
              exact ⟨_,rfl,World.ownsRow_nil _ _ _ _,Go.below_drewN hbl _⟩
            · have HST : Hid (Pl.Mid L (done ++ [Pl.fieldOf S.data.toList]) (Pl.tagOf S.data.toList) (S.data.toList.drop (3 + Pl.lenOf S.data.toList))) := HM.out.step HNN.out (by
                unfold Pl.stepErr
                rw [e0,e1,hln,if_neg h1,if_neg (by omega),if_neg h3,if_neg (by omega)])
              have HFO:Hid (Pl.fieldOf S.data.toList = (((S[0]'p0).toNat:Int),S.extract 3 (3 + (S[1]'p1).toNat * 256 + (S[2]'p2).toNat))):=by
                show Pl.fieldOf S.data.toList = _
                unfold Pl.fieldOf
                rw [e0,e1,Pl.extract_txt,show 3 + (S[1]'p1).toNat * 256 + (S[2]'p2).toNat - 3 = 256 * (S[1]'p1).toNat + (S[2]'p2).toNat from by omega]
              have HE0:Hid (Pl.tagOf S.data.toList = ((S[0]'p0).toNat:Int)):=e0
              have HE1:Hid (Pl.lenOf S.data.toList = 256 * (S[1]'p1).toNat + (S[2]'p2).toNat):=e1
              clear e0 e1 hln h2
              go_wp2
              go_quiet (fail)
              go_wp2_with (at_builtin;refine wpList_append_own _ rfl (.tmp 40) (.tmp 46) 71 rfl w.heap.size 70 i0 (.agg #[.int .i64 0,.string ⟨#[]⟩]) 2 24 Tryz.underlying71 hi hz0 hz1 hz2 rfl (by decide) _ _ _ rfl ((own_drewN hown _).alloc _) ⟨wr.heap.size,0,none⟩ 1 1 [.int .i64 ((S[0]'p0).toNat:Int),.string (S.extract 3 (3 + (S[1]'p1).toNat * 256 + (S[2]'p2).toNat))] rfl rfl (App.two_new _ _ rfl _ _ _) (App.one2 _ _) (by unfold maxLen;omega) (by omega) (by first | omega | (simp;omega)) ?_;intro v1 w1 hown1 hgrow1 _)
              go_roundw
              case rel =>
                refine ⟨_,done ++ [Pl.fieldOf S.data.toList],Pl.tagOf S.data.toList,rfl,by rw [HE0.out],?_,by rw [HE0.out];omega,?_,?_,?_⟩
                · rw [ByteArray.size_extract];omega
                · rw [extract_rest, show 3 + (S[1]'p1).toNat * 256 + (S[2]'p2).toNat = 3 + Pl.lenOf S.data.toList from by rw [HE1.out]; omega]
                  exact HST.out
                · rw [HFO.out, cellsOf_append, List.length_append]
                  exact hown1
                · exact ((Go.below_drewN hbl _).alloc hsz _).grown hgrow1 (by simp;omega) (fun g hg=>(hown.lt g hg).1)
              case measure=>simp only [ByteArray.size_extract];omega
end Go.Proofs.YtggoccfddnpelaaGreat.Ks
