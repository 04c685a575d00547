/- NWr, as one. -/
import Derived.Lib.MinMax
import Derived.Test.YtneojimodomohaaGreatV29
import Derived.Test.YtneojimodomohaaGreatV30
set_option maxHeartbeats 8000000
set_option maxRecDepth 100000
set_option linter.unusedSimpArgs false
namespace Go.Proofs.YtneojimodomohaaGreat
open Go.ChangeShapes Go.WideShapes Go.ChangeAt Go.RowKit Go.Deep It
namespace Fst
section
variable {P:Program} {ops:Array Oper} {Q:Exit->Act->World->Prop} {md:Region.Mode} {S:World->Prop} {late:Nat->Bool}
theorem keep_step {i:Nat} {oi:Oper} {n:Nat} {l:Array Bool} {a:Act} {w:World} (hi:ops[i]? = some oi)
  (h:∀ K':Act->World->Prop,(∀ a w,S w->anyL P md ops Q late S n (l.setIfInBounds i true) a w->K' a w)->if Region.wanted oi (yielded ops a.tmps) = true then Oper.wp P oi a w K' Q else K' (a.put oi.dst undef) w) :
  wpOp P ops Q i (fun a' w'=>Sl late S (l.setIfInBounds i true) w'/\anyL P md ops Q late S n (l.setIfInBounds i true) a' w') a w:=by
 have:=h (fun a' w'=>Sl late S (l.setIfInBounds i true) w'/\anyL P md ops Q late S n (l.setIfInBounds i true) a' w') (fun a' w' hS h=>⟨.inr hS,h⟩);unfold wpOp;simp only [hi];split
 ·rename_i hw;rw [if_pos hw] at this;exact .inl this
 ·rename_i hw;rw [if_neg hw] at this;exact this
theorem one {i:Nat} {oi:Oper} {n:Nat} {l:Array Bool} {a:Act} {w:World} (hr:Region.ready md ops l = [i]) (hi:ops[i]? = some oi)
  (h1:∀ K':Act->World->Prop,(∀ a w,S w->anyL P md ops Q late S n (l.setIfInBounds i true) a w->K' a w)->if Region.wanted oi (yielded ops a.tmps) = true then Oper.wp P oi a w K' Q else K' (a.put oi.dst undef) w):anyL P md ops Q late S (n + 1) l a w:=by
 refine ⟨fun h=>(by rw [hr] at h;cases h),fun k hk=>?_⟩;rw [hr] at hk;rcases List.mem_cons.1 hk with rfl | hk
 ·exact keep_step hi h1
 ·cases hk
theorem both {i j:Nat} {oi oj:Oper} {n:Nat} {l:Array Bool} {a:Act} {w:World} (hr:Region.ready md ops l = [i,j]) (hi:ops[i]? = some oi) (hj:ops[j]? = some oj)
  (h1:∀ K':Act->World->Prop,(∀ a w,S w->anyL P md ops Q late S n (l.setIfInBounds i true) a w->K' a w)->if Region.wanted oi (yielded ops a.tmps) = true then Oper.wp P oi a w K' Q else K' (a.put oi.dst undef) w)
  (h2:∀ K':Act->World->Prop,(∀ a w,S w->anyL P md ops Q late S n (l.setIfInBounds j true) a w->K' a w)->if Region.wanted oj (yielded ops a.tmps) = true then Oper.wp P oj a w K' Q else K' (a.put oj.dst undef) w):anyL P md ops Q late S (n + 1) l a w:=by
 refine ⟨fun h=>(by rw [hr] at h;cases h),fun k hk=>?_⟩;rw [hr] at hk;rcases List.mem_cons.1 hk with rfl | hk
 ·exact keep_step hi h1
 ·rcases List.mem_cons.1 hk with rfl | hk
  ·exact keep_step hj h2
  ·cases hk
theorem three {i j m:Nat} {oi oj om:Oper} {n:Nat} {l:Array Bool} {a:Act} {w:World} (hr:Region.ready md ops l = [i,j,m]) (hi:ops[i]? = some oi) (hj:ops[j]? = some oj) (hm:ops[m]? = some om)
  (h1:∀ K':Act->World->Prop,(∀ a w,S w->anyL P md ops Q late S n (l.setIfInBounds i true) a w->K' a w)->if Region.wanted oi (yielded ops a.tmps) = true then Oper.wp P oi a w K' Q else K' (a.put oi.dst undef) w)
  (h2:∀ K':Act->World->Prop,(∀ a w,S w->anyL P md ops Q late S n (l.setIfInBounds j true) a w->K' a w)->if Region.wanted oj (yielded ops a.tmps) = true then Oper.wp P oj a w K' Q else K' (a.put oj.dst undef) w)
  (h3:∀ K':Act->World->Prop,(∀ a w,S w->anyL P md ops Q late S n (l.setIfInBounds m true) a w->K' a w)->if Region.wanted om (yielded ops a.tmps) = true then Oper.wp P om a w K' Q else K' (a.put om.dst undef) w):anyL P md ops Q late S (n + 1) l a w:=by
 refine ⟨fun h=>(by rw [hr] at h;cases h),fun k hk=>?_⟩;rw [hr] at hk;rcases List.mem_cons.1 hk with rfl | hk
 ·exact keep_step hi h1
 ·rcases List.mem_cons.1 hk with rfl | hk
  ·exact keep_step hj h2
  ·rcases List.mem_cons.1 hk with rfl | hk
   ·exact keep_step hm h3
   ·cases hk
theorem firstP {i:Nat} {oi:Oper} {v:Value} (hi:ops[i]? = some oi) (hsel:∀ (j:Nat) (o:Oper) cs b,ops[j]? = some o->o.op≠.select cs b)
  (hQ:∀ c a w,Q (.panic c) (a.put oi.dst v) w->Q (.panic c) a w) (hli:late i = false) :
  ∀ (n:Nat) (l:Array Bool) (a:Act) (w:World),
   (∀ j oj,ops[j]? = some oj->j≠i->l.getD j true = false->(∀ e∈oj.after,Region.binds md e = true->e.on≠i)->oi.apart ops oj = true) ->
   i∈Region.ready md ops l->YieldsIf P ops (fun _=>True) oi v a->Sl late S l w ->
   anyL P md ops Q late S n (l.setIfInBounds i true) (a.put oi.dst v) w->anyL P md ops Q late S (n + 1) l a w:=by
 have hset:∀ (l:Array Bool) (w:World),Sl late S l w->Sl late S (l.setIfInBounds i true) w:=fun l w h=>by
  rcases h with ⟨k,hk,hk2⟩ | h
  ·exact .inl ⟨k,hk,getD_set_true hk2⟩
  ·exact .inr h
 intro n
 induction n with
 | zero =>
  intro l a w _ hr hy hS H;refine ⟨fun h=>(by rw [h] at hr;cases hr),fun j hj=>?_⟩
  by_cases hji:j = i
  ·subst hji;exact hy.wpOp hi trivial ⟨hset _ _ hS,H⟩
  ·have:=ready_mono hj hji;rw [H.1] at this
   cases this
 | succ n ih =>
  intro l a w hfree hr hy hS H;refine ⟨fun h=>(by rw [h] at hr;cases hr),fun j hj=>?_⟩
  by_cases hji:j = i
  ·subst hji;exact hy.wpOp hi trivial ⟨hset _ _ hS,H⟩
  ·have h1:=H.2 j (ready_mono hj hji);obtain ⟨hjun,oj,hoj,hall⟩:=mem_ready.1 hj;have hiun:=unlisted (mem_ready.1 hr).1;have hnot:∀ e∈oj.after,Region.binds md e = true->e.on≠i:=fun e he hb heq=>by
    have h1:=hall e he hb;rw [heq,hiun] at h1
    cases h1
   have h2:=wpOp_putIf (S:=fun _=>True) hoj (hfree j oj hoj hji hjun hnot) (fun cs b=>hsel i oi cs b hi) (fun cs b=>hsel j oj cs b hoj) hQ hy h1;have hfree':∀ k ok,ops[k]? = some ok->k≠i->(l.setIfInBounds j true).getD k true = false ->
     (∀ e∈ok.after,Region.binds md e = true->e.on≠i)->oi.apart ops ok = true:=fun k ok hk hki hun hn=>by
    refine hfree k ok hk hki ?_ hn
    by_cases hjk:j = k
    ·subst hjk;exact hjun
    ·rw [getD_set_ne true hjk] at hun;exact hun
   refine wpOp_mono (fun a' w' h3=>?_) h2;obtain ⟨hy3,hS3,H3⟩:=h3;have hS':Sl late S (l.setIfInBounds j true) w':=by
    rcases hS3 with ⟨k,hk,hk2⟩ | h
    ·refine .inl ⟨k,hk,?_⟩;rw [← Array.setIfInBounds_comm _ _ hji,getD_set_ne false (fun e=>by subst e;rw [hli] at hk;cases hk)] at hk2;exact hk2
    ·exact .inr h
   refine ⟨hS',ih (l.setIfInBounds j true) a' w' hfree' (ready_mono hr (Ne.symm hji)) hy3 hS' ?_⟩;rw [Array.setIfInBounds_comm _ _ hji];exact H3
theorem takeP {ls:List Nat} {i:Nat} {oi:Oper} {v:Value} {n:Nat} {l:Array Bool} {a:Act} {w:World} (hi:ops[i]? = some oi) (hs:Region.noSelect ops = true) (hf:Region.free md ops l i = true) (hr:(Region.ready md ops l).contains i = true) (hb:ls.contains i = false)
  (hQ:∀ c a w,Q (.panic c) (a.put oi.dst v) w->Q (.panic c) a w) (hy:YieldsIf P ops (fun _=>True) oi v a) (hS:S w)
  (h:anyL P md ops Q (fun k=>ls.contains k) S n (l.setIfInBounds i true) (a.put oi.dst v) w):anyL P md ops Q (fun k=>ls.contains k) S (n + 1) l a w :=
 firstP hi (Region.noSelect_spec hs) hQ hb n l a w (Region.free_spec hi hf) (by simpa using hr) hy (.inr hS) h
theorem done {n:Nat} {l:Array Bool} {a:Act} {w:World} (hr:Region.ready md ops l = []) (h:Q .normal a w):anyL P md ops Q late S n l a w:=by
 cases n with
 | zero=>exact ⟨hr,h⟩
 | succ n=>exact ⟨fun _=>h,fun i hi=>by rw [hr] at hi;cases hi⟩
end
end Fst
theorem write_ok' (l:List (Int × ByteArray)) (a:Int) (d:ByteArray):okFields (Bs.Bl.wOut l a d)/\(Bs.Bl.wOut l a d).length<=5864062014805:=by
 unfold Bs.Bl.wOut
 by_cases h:Bs.Bl.wErr l a d = 0
 ·rw [if_pos h];obtain ⟨h1,h2,h3⟩:=Bs.Bl.wErr_ok h;exact ok_right (Bs.Bl.write_right h1 h2 h3)
 ·rw [if_neg h];exact ⟨fun r hr=>by simp at hr,by simp⟩
namespace Nf
noncomputable def wrO (x:Ino) (c:Cal):List (Int × ByteArray):=Bs.Bl.wOut x.runs c.pl c.data
noncomputable def wrN (x:Ino) (c:Cal):Int:=max x.size (Bs.Bl.endOf (wrO x c))
noncomputable def wrX (x:Ino) (c:Cal) (dn:Int):Ino:=if gE x (wrN x c) dn = 0 then { x with size:=wrN x c,stamp:=dn,runs:=wrO x c } else { x with kind:=0,links:=0,size:=0,stamp:=0,runs:=wrO x c }
noncomputable def room (L:List Ino) (x:Ino) (c:Cal):Int:=wrap64 (wrap64 (allBytes L - Bl.sumw x.runs) + Bl.sumw (wrO x c))
noncomputable def wrR (L:List Ino) (c:Cal) (dn:Int):Value :=
 if fndE L c.no c.gen 1 405≠0 then VBad (fndE L c.no c.gen 1 405)
 else if 512 < c.data.size then VBad 408
 else if Bs.Bl.wErr (findI L c.no c.gen).runs c.pl c.data≠0 then VBad (Bs.Bl.wErr (findI L c.no c.gen).runs c.pl c.data)
 else if c.data.size = 0 then VRp 0 0 0 (findI L c.no c.gen).kind (findI L c.no c.gen).links (findI L c.no c.gen).size (findI L c.no c.gen).stamp ⟨#[]⟩ (.slice none 0 0) 0
 else if 8192 < room L (findI L c.no c.gen) c then VBad 407
 else VRp (putErr L c.no c.gen (wrX (findI L c.no c.gen) c dn)) 0 0 (wrX (findI L c.no c.gen) c dn).kind (wrX (findI L c.no c.gen) c dn).links (wrX (findI L c.no c.gen) c dn).size (wrX (findI L c.no c.gen) c dn).stamp ⟨#[]⟩ (.slice none 0 0) 0
noncomputable def wrT (L:List Ino) (c:Cal) (dn:Int):List Ino :=
 if fndE L c.no c.gen 1 405≠0 then L
 else if 512 < c.data.size then L
 else if Bs.Bl.wErr (findI L c.no c.gen).runs c.pl c.data≠0 then L
 else if c.data.size = 0 then L
 else if 8192 < room L (findI L c.no c.gen) c then L
 else ptT L c.no c.gen (wrX (findI L c.no c.gen) c dn)
end Nf
theorem nwrite_any {S:Nat->Prop} (vi vo vs:Value) (dn cl:Int) (c:Cal) (L:List Rw) (B:Nat) (w:World) (hB:w.heap[B]? = some (BTk vi vo vs dn cl c)) (hv:TabAt S w vi L) (hdl:c.data.size<=maxLen) :
  Calls Tryz.prog 52 #[.pointer (some ⟨B,0,none⟩)] w fun e w'=>∃ u,e = .returned (Nf.wrR (pl L) c dn)/\w'.heap[B]? = some (BTk u vo vs dn cl c)/\Nf.Now (w.heap.size + 1) w' vi u (pl L) (Nf.wrT (pl L) c dn)/\w.grownBy w' (some B):=by
 have HDL:Hid (c.data.size<=maxLen):=hdl;have hBl:=(qL hB);obtain ⟨W,hW⟩:=qF (w.alloc BR0);have HB0:Hid _:=qB hW;have HA0:Hid _:=qC hW;have HT0:Hid (W.heap[B]? = some (BTk vi vo vs dn cl c)):=(HB0.out.block _ hBl).trans hB;have HV:Hid (TabAt (fun b=>b < w.heap.size) W vi L):=(hv.imp (fun _ _ hl=>hl)).up HB0.out;have hwW:w.heap.size < W.heap.size:=(qL HA0.out);have hBW:B < W.heap.size:=(qL HT0.out);have hBne:B≠w.heap.size:=by omega
 obtain ⟨ao,cap,hsi,-,-⟩:=hv.open;obtain ⟨nn,hn'⟩:=qE L.length;rw [hn'] at hsi;subst hsi;obtain ⟨R,hR⟩:=qE (Nf.wrR (pl L) c dn);obtain ⟨T,hT⟩:=qE (Nf.wrT (pl L) c dn);rw [hR,hT];have HRR:Hid (Nf.wrR (pl L) c dn = R):=hR;have HTT:Hid (Nf.wrT (pl L) c dn = T):=hT;obtain ⟨fe,hfe⟩:=qE (Nf.fndE (pl L) c.no c.gen 1 405);have HF:Hid (Nf.fndE (pl L) c.no c.gen 1 405 = fe):=hfe;obtain ⟨dz,hdz⟩:=qE c.data.size;have HDZ:Hid (c.data.size = dz):=hdz;clear hv hB hfe hR hT hn' hdl hdz;go_enter Tryz.func52,Tryz.ntmps52;go_wp2_with fail;rw [← hW];clear hW;refine (nfile_any (.slice ao nn cap) vo vs dn cl c L B W HT0.out HV.out).mono ?_;rintro e w1 ⟨x,rfl,hxi,hxg,hb1⟩;rw [HF.out] at hxi ⊢;have HT1:=qK hb1 HT0;obtain ⟨Y,hY⟩:=qF (w1.alloc (BIx x));have bw1:Bw w1 Y:=by rw [hY];exact qG _ _
 have hbY:Bw W Y:=hb1.trans (bw1.mono hb1.size);have HBY:Hid (Bw w Y):=HB0.out.trans (hbY.mono HB0.out.size);have HZ:=qK hbY HA0;have HTY:=qK hbY HT0;have HXA:Hid _:=qC hY;have HG:Hid (Good (fun b=>b < w1.heap.size) Y x):=(hxg.imp (fun _ _ hl=>hl)).up bw1;have HVY:Hid (TabAt (fun b=>b < w.heap.size) Y (.slice ao nn cap) L):=HV.out.up hbY;have HXI:Hid (x.i = if fe = 0 then findI (pl L) c.no c.gen else zeroI):=hxi;have hzl:=(qL HZ.out);have hBY:=(qL HTY.out);have hzl1:w.heap.size < w1.heap.size:=by have:=hb1.size;omega
 have hBX:B < w1.heap.size:=by have:=hb1.size;omega
 have hXY:w1.heap.size < Y.heap.size:=(qL HXA.out);clear hb1 bw1 hbY hxg hxi HA0 HT0 HV HB0
 by_cases h0:fe = 0
 ·have HXX:Hid (findI (pl L) c.no c.gen = x.i):=by
   have:=HXI.out;rw [if_pos h0] at this;exact this.symm
  have HN0:Hid (¬ fe≠0):=fun h=>h h0
  obtain ⟨-,-,-,-,-,-,-,-,-,-,-,-,-,-,t14⟩:=tk_of HT1.out;have hBX':¬ B = w1.heap.size:=by omega
  by_cases hd5:512 < dz
  ·have hd5I:(512:Int) < (dz:Int):=by omega
   have hds:=HDZ.out;have HRb:Hid (VBad 408 = R):=by
    have:=HRR.out;unfold Nf.wrR at this;rw [HF.out,HXX.out,HDZ.out,if_neg HN0.out,if_pos hd5] at this;exact this
   have HTb:Hid (pl L = T):=by
    have:=HTT.out;unfold Nf.wrT at this;rw [HF.out,HXX.out,HDZ.out,if_neg HN0.out,if_pos hd5] at this;exact this
   subst h0;go_wp2_with fail;rw [← hY];clear hY;refine (wrong_any 408 _).mono ?_;rintro e w7 ⟨rfl,hb7⟩;have HB7:Hid (Bw w w7):=HBY.out.trans (hb7.mono HBY.out.size);have HZ7:=qK hb7 HZ;have HT7:=qK hb7 HTY;obtain ⟨g0,g1,g2,g3,g4,g5,g6,g7,g8,g9⟩:=rp_of HZ7.out;have gg:=fr_at HZ7.out;clear hb7;go_wp2
   (try simp only [Exit.inBlock,Exit.then])
   refine bodyPost_ret (v:=R) ?_ rfl ⟨.slice ao nn cap,rfl,?_,.inl ⟨rfl,HTb.out.symm⟩,?_⟩
   ·rw [results_cell1 rfl,← HRb.out]
    go_simp
   ·repeat (with_reducible refine (Below.heap_setCell _ _ _ _ (show B≠w.heap.size from hBne)).trans ?_)
    exact HT7.out
   ·repeat (with_reducible refine gr_set ?_ (.inl (Nat.le_refl w.heap.size)) _)
    exact grown_of_below HB7.out _
  have hd5I:¬ (512:Int) < (dz:Int):=by omega
  have hds:=HDZ.out;subst h0;go_wp2_with fail;rw [← hY];clear hY;obtain ⟨X,hX⟩:=qE w1.heap.size;rw [hX] at HXA HG hzl1 hBX hXY hBX'
  (try rw [hX])
  clear hX t14 hds HT1;obtain ⟨we,hwe⟩:=qE (Bs.Bl.wErr x.i.runs c.pl c.data);have HWE:Hid (Bs.Bl.wErr x.i.runs c.pl c.data = we):=hwe;have HC:Hid (∀ V,Bw Y V->Calls Tryz.prog 98 #[.slice x.rp x.rn x.rc,.int .i64 c.pl,.string c.data] V fun e w'=>∃ p m q,e = .returned (.tuple #[.slice p m q,.int .i64 we])/\At ER (fun b=>X < b) w' (.slice p m q) (Nf.wrO x.i c)/\Bw Y w'):=fun V h=>by
   have hg:=good_runs (HG.out.up h);refine (Bs.write_any (.slice x.rp x.rn x.rc) x.i.runs c.pl c.data V hg.1 hg.2 HDL.out).mono ?_;rintro e w' ⟨r,h1,h2,h3⟩;rw [hwe] at h1;have ha:=run_at h2;obtain ⟨ao,cap,hr,-,-⟩:=ha.open;subst hr;have hs:=h.size;exact ⟨_,_,_,h1,ha.imp (fun b hb _=>by show X < b;omega),h.trans (h3.mono h.size)⟩
  have HSG:Hid (∀ V:World,Bw Y V->V.cell? ⟨X,5,none⟩ = some (.slice x.rp x.rn x.rc)/\V.cell? ⟨B,12,none⟩ = some (.int .i64 c.pl)/\V.cell? ⟨B,14,none⟩ = some (.string c.data)):=fun V h=>by
   obtain ⟨-,-,-,-,-,-,-,-,-,-,-,-,t12,-,t14⟩:=tk_of HTY.out;have k5:=cell_at HXA.out 5;simp at k5;exact ⟨cell_step k5 h,cell_step t12 h,cell_step t14 h⟩
  clear hwe;refine wp_region_any (by kernel_rfl) ?_;change wpAny _ _ _ _ _ _ _ (World.drew _);refine qV (i:=0) rfl ?_
  try simp only [qS]
  refine qV (i:=2) rfl ?_
  try simp only [qS]
  refine qV (i:=3) rfl ?_
  try simp only [qS]
  refine qV (i:=4) rfl ?_
  try simp only [qS]
  refine qV (i:=5) rfl ?_
  try simp only [qS]
  refine qV (i:=7) rfl ?_
  try simp only [qS]
  refine qV (i:=8) rfl ?_
  try simp only [qS]
  refine qV (i:=9) rfl ?_
  try simp only [qS]
  refine qV (i:=10) rfl ?_
  try simp only [qS]
  have HS:(fun V:World=>V.cell? ⟨X,5,none⟩ = some (.slice x.rp x.rn x.rc)/\V.cell? ⟨B,12,none⟩ = some (.int .i64 c.pl)/\V.cell? ⟨B,14,none⟩ = some (.string c.data)) Y.drew:=HSG.out _ (bel_drew (Below.refl _ _));refine Fst.any_of (late:=fun k=>[12,13,14,15,16,17].contains k) (S:=fun V:World=>V.cell? ⟨X,5,none⟩ = some (.slice x.rp x.rn x.rc)/\V.cell? ⟨B,12,none⟩ = some (.int .i64 c.pl)/\V.cell? ⟨B,14,none⟩ = some (.string c.data)) _ _ _ _ ?_;refine Fst.tk (ls:=[12,13,14,15,16,17]) (i:=1) (v:=?v10) rfl (Or.inl ⟨by rfl,?h10⟩) HS ?r10
  case h10=>(rintro V ⟨s5,s12,s14⟩;go_simp;try with_reducible rfl)
  try simp only [qS]
  refine Fst.tk (ls:=[12,13,14,15,16,17]) (i:=6) (v:=?v11) rfl (Or.inl ⟨by rfl,?h11⟩) HS ?r11
  case h11=>(rintro V ⟨s5,s12,s14⟩;go_simp;try with_reducible rfl)
  try simp only [qS]
  refine Fst.tk (ls:=[12,13,14,15,16,17]) (i:=11) (v:=?v12) rfl (Or.inl ⟨by rfl,?h12⟩) HS ?r12
  case h12=>(rintro V ⟨s5,s12,s14⟩;go_simp;try with_reducible rfl)
  try simp only [qS]
  refine Fst.rest (by kernel_rfl) ?_;refine wpAny_ready (rs:=[12]) (by kernel_rfl) (by simp) ?_;refine AllReady.cons rfl (fun K hK=>?_) AllReady.nil
  go_simp
  refine (HC.out _ (bel_drew (Below.refl _ _))).mono ?_;rintro e w5 ⟨p,m,q,rfl,ha5,hb55⟩;have HB5:Hid (Bw w w5):=HBY.out.trans (hb55.mono HBY.out.size);have HT5:=qK hb55 HTY;have HZ5:=qK hb55 HZ;have HX5:=qK hb55 HXA;have HG5:Hid (Good (fun b=>b < X) w5 x):=HG.out.up hb55;have HV5:Hid (TabAt (fun b=>b < w.heap.size) w5 (.slice ao nn cap) L):=HVY.out.up hb55;have HA5:Hid (At ER (fun b=>X < b) w5 (.slice p m q) (Nf.wrO x.i c)):=ha5;have hX5:X < w5.heap.size:=(qL HX5.out);have hz5:=(qL HZ5.out);have hB5:=(qL HT5.out);clear hb55 ha5 HC HSG HS HBY HTY HZ HXA HG HVY hzl hBY hXY
  (try go_wp2_with fail)
  first | (refine hK _ _ ?_;clear hK K) | skip
  try simp only [qS]
  refine qV (i:=13) rfl ?_
  try simp only [qS]
  refine qV (i:=14) rfl ?_
  try simp only [qS]
  refine qV (i:=15) rfl ?_
  try simp only [qS]
  refine wpAny_ready (rs:=[16]) (by kernel_rfl) (by simp) ?_;refine AllReady.cons rfl (fun K hK=>?_) AllReady.nil
  go_simp
  (try go_wp2_with fail)
  first | (refine hK _ _ ?_;clear hK K) | skip
  try simp only [qS]
  refine wpAny_ready (rs:=[17]) (by kernel_rfl) (by simp) ?_;refine AllReady.cons rfl (fun K hK=>?_) AllReady.nil
  go_simp
  (try go_wp2_with fail)
  first | (refine hK _ _ ?_;clear hK K) | skip
  try simp only [qS]
  refine wpAny_done (by kernel_rfl) ?_ _
  by_cases hw0:we = 0
  ·subst hw0;have HWN:Hid (¬ (0:Int)≠0):=fun h=>h rfl
   obtain ⟨-,-,-,-,-,-,-,-,-,-,-,-,-,-,t14⟩:=tk_of HT5.out
   by_cases hd0:dz = 0
   ·have hce:c.data = ⟨#[]⟩:=by
     have h1:=HDZ.out;rw [hd0] at h1
     cases hc:c.data with
     | mk d=>rw [hc] at h1;simp [ByteArray.size] at h1;rw [h1]
    rw [hce] at t14;have HRb:Hid (VRp 0 0 0 x.i.kind x.i.links x.i.size x.i.stamp ⟨#[]⟩ (.slice none 0 0) 0 = R):=by
     have:=HRR.out;unfold Nf.wrR at this;rw [HF.out,HXX.out,HDZ.out,if_neg HN0.out,if_neg hd5,HWE.out,if_neg HWN.out,if_pos hd0] at this;exact this
    have HTb:Hid (pl L = T):=by
     have:=HTT.out;unfold Nf.wrT at this;rw [HF.out,HXX.out,HDZ.out,if_neg HN0.out,if_neg hd5,HWE.out,if_neg HWN.out,if_pos hd0] at this;exact this
    have k1:=cell_at HX5.out 1;have k2:=cell_at HX5.out 2;have k3:=cell_at HX5.out 3;have k4:=cell_at HX5.out 4;simp at k1 k2 k3 k4;obtain ⟨g0,g1,g2,g3,g4,g5,g6,g7,g8,g9⟩:=rp_of HZ5.out;have gg:=fr_at HZ5.out;clear HRR HTT hce;go_wp2
    (try simp only [Exit.inBlock,Exit.then])
    refine bodyPost_ret (v:=R) ?_ rfl ⟨.slice ao nn cap,rfl,?_,.inl ⟨rfl,HTb.out.symm⟩,?_⟩
    ·rw [results_cell1 rfl,← HRb.out]
     go_simp
    ·repeat (with_reducible refine (Below.heap_setCell _ _ _ _ (show B≠w.heap.size from hBne)).trans ?_)
     exact HT5.out
    ·repeat (with_reducible refine gr_set ?_ (.inl (Nat.le_refl w.heap.size)) _)
     exact grown_of_below HB5.out _
   have hdn:(c.data.toList == ([]:List UInt8)) = false:=by
    have h1:=HDZ.out
    cases hq:c.data.toList == ([]:List UInt8) with
    | false=>rfl
    | true =>
     have h2:c.data.toList = []:=by simpa using hq
     have h3:c.data.toList.length = c.data.size:=by simp [ByteArray.toList_eq]
     rw [h2] at h3;simp at h3;omega
   have HAB:Hid (∀ V,Bw w5 V->Calls Tryz.prog 30 #[.slice ao nn cap] V fun e w'=>e = .returned (.int .i64 (allBytes (pl L)))/\Bw w5 w'):=fun V h=>by
    refine (ibytes_any _ L V (HV5.out.up h)).mono ?_;rintro e w' ⟨h1,h2⟩;exact ⟨h1,h.trans (h2.mono h.size)⟩
   have HXB:Hid (∀ V,Bw w5 V->Calls Tryz.prog 82 #[.slice x.rp x.rn x.rc] V fun e w'=>e = .returned (.int .i64 (Bl.sumw x.i.runs))/\Bw w5 w'):=fun V h=>by
    refine (bbytes_any _ x.i.runs V (HG5.out.up h).1.fields).mono ?_;rintro e w' ⟨h1,h2⟩;exact ⟨h1,h.trans (h2.mono h.size)⟩
   have HPB:Hid (∀ V,Bw w5 V->Calls Tryz.prog 82 #[.slice p m q] V fun e w'=>e = .returned (.int .i64 (Bl.sumw (Nf.wrO x.i c)))/\Bw w5 w'):=fun V h=>by
    refine (bbytes_any _ (Nf.wrO x.i c) V (HA5.out.up h).fields).mono ?_;rintro e w' ⟨h1,h2⟩;exact ⟨h1,h.trans (h2.mono h.size)⟩
   have HRM:Hid (Nf.room (pl L) x.i c = wrap64 (wrap64 (allBytes (pl L) - Bl.sumw x.i.runs) + Bl.sumw (Nf.wrO x.i c))):=rfl;obtain ⟨s1,hs1⟩:=qE (allBytes (pl L));obtain ⟨s2,hs2⟩:=qE (Bl.sumw x.i.runs);obtain ⟨s3,hs3⟩:=qE (Bl.sumw (Nf.wrO x.i c));rw [hs1] at HAB HRM;rw [hs2] at HXB HRM;rw [hs3] at HPB HRM;have HSG:Hid (∀ V:World,Bw w5 V->V.cell? ⟨B,0,none⟩ = some (.slice ao nn cap)/\V.cell? ⟨X,5,none⟩ = some (.slice x.rp x.rn x.rc)):=fun V h=>by
    obtain ⟨t0,-,-,-,-,-,-,-,-,-,-,-,-,-,-⟩:=tk_of HT5.out;have k5:=cell_at HX5.out 5;simp at k5;exact ⟨cell_step t0 h,cell_step k5 h⟩
   clear hs1 hs2 hs3;go_wp2_with fail;apply cut_in
   ·intro hK0;refine wp_region_any (by kernel_rfl) ?_;change wpAny _ _ _ _ _ _ _ (World.drew _);refine qV (i:=0) rfl ?_
    try simp only [qS]
    refine qV (i:=1) rfl ?_
    try simp only [qS]
    refine qV (i:=2) rfl ?_
    try simp only [qS]
    refine qV (i:=3) rfl ?_
    try simp only [qS]
    refine qV (i:=6) rfl ?_
    try simp only [qS]
    refine qV (i:=10) rfl ?_
    try simp only [qS]
    refine Fst.any_of (late:=fun k=>([]:List Nat).contains k) (S:=fun V:World=>V.cell? ⟨B,0,none⟩ = some (.slice ao nn cap)/\V.cell? ⟨X,5,none⟩ = some (.slice x.rp x.rn x.rc)) _ _ _ _ ?_;refine Fst.take (ls:=([]:List Nat)) (i:=4) (v:=?v22) rfl (by kernel_rfl) (by kernel_rfl) (by kernel_rfl) (by kernel_rfl) (by kernel_rfl) (fun _ _ _ h=>h) (Or.inl ⟨by rfl,?h22⟩) (HSG.out _ (bel_drew (Below.refl _ _))) ?r22
    case h22=>(rintro V ⟨s0,s5⟩;go_simp;try with_reducible rfl)
    try simp only [qS]
    refine Fst.take (ls:=([]:List Nat)) (i:=7) (v:=?v23) rfl (by kernel_rfl) (by kernel_rfl) (by kernel_rfl) (by kernel_rfl) (by kernel_rfl) (fun _ _ _ h=>h) (Or.inl ⟨by rfl,?h23⟩) (HSG.out _ (bel_drew (Below.refl _ _))) ?r23
    case h23=>(rintro V ⟨s0,s5⟩;go_simp;try with_reducible rfl)
    try simp only [qS]
    refine Fst.one (i:=5) (by kernel_rfl) rfl (fun K hK=>?_)
    go_simp
    refine (HAB.out _ (bel_drew (Below.refl _ _))).mono ?_;rintro e v1 ⟨rfl,hb1⟩
    (try go_wp2_with fail)
    first | (refine hK _ _ (HSG.out _ (hb1)) ?_;clear hK K) | skip
    try simp only [qS]
    refine Fst.one (i:=8) (by kernel_rfl) rfl (fun K hK=>?_)
    go_simp
    refine (HXB.out _ (hb1)).mono ?_;rintro e v2 ⟨rfl,hb2⟩
    (try go_wp2_with fail)
    first | (refine hK _ _ (HSG.out _ (hb2)) ?_;clear hK K) | skip
    try simp only [qS]
    refine Fst.take (ls:=([]:List Nat)) (i:=9) (v:=?v24) rfl (by kernel_rfl) (by kernel_rfl) (by kernel_rfl) (by kernel_rfl) (by kernel_rfl) (fun _ _ _ h=>h) (Or.inl ⟨by rfl,?h24⟩) (HSG.out _ (hb2)) ?r24
    case h24=>(rintro V ⟨s0,s5⟩;go_simp;try with_reducible rfl)
    try simp only [qS]
    refine Fst.one (i:=11) (by kernel_rfl) rfl (fun K hK=>?_)
    go_simp
    refine (HPB.out _ (hb2)).mono ?_;rintro e v3 ⟨rfl,hb3⟩
    (try go_wp2_with fail)
    first | (refine hK _ _ (HSG.out _ (hb3)) ?_;clear hK K) | skip
    try simp only [qS]
    refine Fst.take (ls:=([]:List Nat)) (i:=12) (v:=?v25) rfl (by kernel_rfl) (by kernel_rfl) (by kernel_rfl) (by kernel_rfl) (by kernel_rfl) (fun _ _ _ h=>h) (Or.inl ⟨by rfl,?h25⟩) (HSG.out _ (hb3)) ?r25
    case h25=>(rintro V ⟨s0,s5⟩;go_simp;try with_reducible rfl)
    try simp only [qS]
    refine Fst.take (ls:=([]:List Nat)) (i:=13) (v:=?v26) rfl (by kernel_rfl) (by kernel_rfl) (by kernel_rfl) (by kernel_rfl) (by kernel_rfl) (fun _ _ _ h=>h) (Or.inl ⟨by rfl,?h26⟩) (HSG.out _ (hb3)) ?r26
    case h26=>(rintro V ⟨s0,s5⟩;go_simp;try with_reducible rfl)
    try simp only [qS]
    refine Fst.one (i:=14) (by kernel_rfl) rfl (fun K hK=>?_)
    go_simp
    (try go_wp2_with fail)
    first | (refine hK _ _ (HSG.out _ (hb3)) ?_;clear hK K) | skip
    try simp only [qS]
    refine Fst.done (by kernel_rfl) ?_;have HR6:Hid (Bw w5 v3):=hb3;clear hb1 hb2 hb3;revert HR6;revert v3;exact hK0.out
   intro w6 HR6;have HB6:Hid (Bw w w6):=HB5.out.trans (HR6.out.mono HB5.out.size);have HT6:Hid (w6.heap[B]? = some (BTk (.slice ao nn cap) vo vs dn cl c)):=(HR6.out.block _ hB5).trans HT5.out;have HZ6:Hid (w6.heap[w.heap.size]? = some BR0):=(HR6.out.block _ hz5).trans HZ5.out;have HX6:Hid (w6.heap[X]? = some (BIx x)):=(HR6.out.block _ hX5).trans HX5.out;have HG6:Hid (Good (fun b=>b < X) w6 x):=HG5.out.up HR6.out;have HV6:Hid (TabAt (fun b=>b < w.heap.size) w6 (.slice ao nn cap) L):=HV5.out.up HR6.out;have HA6:Hid (At ER (fun b=>X < b) w6 (.slice p m q) (Nf.wrO x.i c)):=HA5.out.up HR6.out;have hX6:X < w6.heap.size:=(qL HX6.out);have hz6:=(qL HZ6.out);have hB6:=(qL HT6.out);clear HSG HAB HXB HPB HB5 HT5 HZ5 HX5 HG5 HV5 HA5 hX5 hz5 hB5 HR6 t14 hdn
   by_cases hrm:8192 < wrap64 (wrap64 (s1 - s2) + s3)
   ·have HRb:Hid (VBad 407 = R):=by
     have:=HRR.out;unfold Nf.wrR at this;rw [HF.out,HXX.out,HDZ.out,if_neg HN0.out,if_neg hd5,HWE.out,if_neg HWN.out,if_neg hd0,HRM.out,if_pos hrm] at this;exact this
    have HTb:Hid (pl L = T):=by
     have:=HTT.out;unfold Nf.wrT at this;rw [HF.out,HXX.out,HDZ.out,if_neg HN0.out,if_neg hd5,HWE.out,if_neg HWN.out,if_neg hd0,HRM.out,if_pos hrm] at this;exact this
    have hrm2:8192 < IntKind.i64.wrap (IntKind.i64.wrap (s1 - s2) + s3):=by rw [IntWalk.i64_left,IntWalk.i64_left];exact hrm
    clear HRR HTT HRM hrm;go_wp2_with fail;refine (wrong_any 407 _).mono ?_;rintro e w7 ⟨rfl,hb7⟩;have HB7:Hid (Bw w w7):=HB6.out.trans (hb7.mono HB6.out.size);have HZ7:=qK hb7 HZ6;have HT7:=qK hb7 HT6;obtain ⟨g0,g1,g2,g3,g4,g5,g6,g7,g8,g9⟩:=rp_of HZ7.out;have gg:=fr_at HZ7.out;clear hb7;go_wp2
    (try simp only [Exit.inBlock,Exit.then])
    refine bodyPost_ret (v:=R) ?_ rfl ⟨.slice ao nn cap,rfl,?_,.inl ⟨rfl,HTb.out.symm⟩,?_⟩
    ·rw [results_cell1 rfl,← HRb.out]
     go_simp
    ·repeat (with_reducible refine (Below.heap_setCell _ _ _ _ (show B≠w.heap.size from hBne)).trans ?_)
     exact HT7.out
    ·repeat (with_reducible refine gr_set ?_ (.inl (Nat.le_refl w.heap.size)) _)
     exact grown_of_below HB7.out _
   obtain ⟨N,hN⟩:=qE (Nf.wrN x.i c);obtain ⟨en,hen⟩:=qE (Bs.Bl.endOf (Nf.wrO x.i c));have HMX:Hid (max x.i.size en = N):=by
    show _ = _;rw [← hN,← hen];rfl
   have HEE:Hid (Bs.Bl.endOf (Nf.wrO x.i c) = en):=hen;have HRb:Hid (VRp (putErr (pl L) c.no c.gen (Nf.wrX x.i c dn)) 0 0 (Nf.wrX x.i c dn).kind (Nf.wrX x.i c dn).links (Nf.wrX x.i c dn).size (Nf.wrX x.i c dn).stamp ⟨#[]⟩ (.slice none 0 0) 0 = R):=by
    have:=HRR.out;unfold Nf.wrR at this;rw [HF.out,HXX.out,HDZ.out,if_neg HN0.out,if_neg hd5,HWE.out,if_neg HWN.out,if_neg hd0,HRM.out,if_neg hrm] at this;exact this
   have HTb:Hid (Nf.ptT (pl L) c.no c.gen (Nf.wrX x.i c dn) = T):=by
    have:=HTT.out;unfold Nf.wrT at this;rw [HF.out,HXX.out,HDZ.out,if_neg HN0.out,if_neg hd5,HWE.out,if_neg HWN.out,if_neg hd0,HRM.out,if_neg hrm] at this;exact this
   have hgo:At.growOut x.i.kind x.i.links x.i.size x.i.stamp N dn = VA (Nf.wrX x.i c dn).kind (Nf.wrX x.i c dn).links (Nf.wrX x.i c dn).size (Nf.wrX x.i c dn).stamp:=by
    rw [← hN];unfold Nf.wrX At.growOut Nf.gE;split <;> rfl
   have hwx:(Nf.wrX x.i c dn).gen = x.i.gen/\(Nf.wrX x.i c dn).next = x.i.next/\(Nf.wrX x.i c dn).runs = Nf.wrO x.i c/\(Nf.wrX x.i c dn).ents = x.i.ents:=by
    unfold Nf.wrX;split <;> exact ⟨rfl,rfl,rfl,rfl⟩
   obtain ⟨z,hz⟩:=qE (Nf.wrX x.i c dn);rw [hz] at HRb HTb hgo hwx;have HWX:Hid (z.gen = x.i.gen/\z.next = x.i.next/\z.runs = Nf.wrO x.i c/\z.ents = x.i.ents):=hwx;obtain ⟨ge,hge⟩:=qE (At.growErr x.i.kind x.i.links x.i.size x.i.stamp N dn);have HC3:Hid (∀ V:World,Calls Tryz.prog 99 #[VA x.i.kind x.i.links x.i.size x.i.stamp,.int .i64 N,.int .i64 dn] V fun e w'=>e = .returned (.tuple #[VA z.kind z.links z.size z.stamp,.int .i64 ge])/\Bw V w'):=fun V=>by
    have:=grow_any x.i.kind x.i.links x.i.size x.i.stamp N dn V;rw [hgo,hge] at this;exact this
   have hrm2:¬ 8192 < IntKind.i64.wrap (IntKind.i64.wrap (s1 - s2) + s3):=by rw [IntWalk.i64_left,IntWalk.i64_left];exact hrm
   clear hN hen hgo hwx hz hge HRR HTT HRM hrm;have k5:=cell_at HX6.out 5;have kf:=fr_at HX6.out;simp at k5;go_wp2_with fail;obtain ⟨w8,hw8⟩:=qF (w6.setCell ⟨X,5,none⟩ (.slice p m q));rw [← hw8];have HX8:Hid (w8.heap[X]? = some (B8 x.i.gen x.i.kind x.i.links x.i.size x.i.stamp (.slice p m q) (.slice x.ep x.en x.ec) x.i.next)):=by
    show w8.heap[X]? = _;rw [hw8];have h4:=set_at HX6.out 5 (.slice p m q);simpa using h4
   have HT8:Hid (w8.heap[B]? = some (BTk (.slice ao nn cap) vo vs dn cl c)):=by show _ = _;rw [hw8];exact (Below.heap_setCell _ _ _ _ (show B≠X by omega)).trans HT6.out
   have HZ8:Hid (w8.heap[w.heap.size]? = some BR0):=by show _ = _;rw [hw8];exact (Below.heap_setCell _ _ _ _ (show w.heap.size≠X by omega)).trans HZ6.out
   have HB8:Hid (Bw w w8):=by show Below _ _ _;rw [hw8];exact Below.setCell HB6.out (by show w.heap.size<=X;omega) _
   have HV8:Hid (TabAt (fun b=>b < w.heap.size) w8 (.slice ao nn cap) L):=by show TabAt _ _ _ _;rw [hw8];exact setCells_tab (A:=X) (by show ¬ X < w.heap.size;omega) [.slice p m q] 5 _ HV6.out
   have HA8:Hid (At ER (fun b=>X < b) w8 (.slice p m q) (Nf.wrO x.i c)):=by show At _ _ _ _ _;rw [hw8];exact HA6.out.setCell (by show ¬ X < X;omega) _
   have HG8:Hid (At EE (fun b=>b < X) w8 (.slice x.ep x.en x.ec) x.i.ents/\x.i.ents.length<=3518437208883):=by show _/\_;rw [hw8];exact ⟨HG6.out.2.1.setCell (by show ¬ X < X;omega) _,HG6.out.2.2.2.2⟩
   have hX8:X < w8.heap.size:=(qL HX8.out);have hz8:=(qL HZ8.out);have hB8:=(qL HT8.out);have HOK:Hid (okFields (Nf.wrO x.i c)/\(Nf.wrO x.i c).length<=5864062014805):=write_ok' _ _ _;have HC2:Hid (∀ V,Bw w8 V->Calls Tryz.prog 100 #[.slice p m q] V fun e w'=>e = .returned (.int .i64 en)/\Bw w8 w'):=fun V h=>by
    refine (Bs.End_any _ (Nf.wrO x.i c) V (HA8.out.up h).fields HOK.out.1).mono ?_;rintro e w' ⟨h1,h2⟩;rw [HEE.out] at h1;exact ⟨h1,h.trans (h2.mono h.size)⟩
   have HSG:Hid (∀ V:World,Bw w8 V->V.cell? ⟨X,1,none⟩ = some (.int .i64 x.i.kind)/\V.cell? ⟨X,2,none⟩ = some (.int .i64 x.i.links)/\V.cell? ⟨X,3,none⟩ = some (.int .i64 x.i.size)/\V.cell? ⟨X,4,none⟩ = some (.int .i64 x.i.stamp)/\V.cell? ⟨B,3,none⟩ = some (.int .i64 dn)):=fun V h=>by
    obtain ⟨-,-,-,t3,-,-,-,-,-,-,-,-,-,-,-⟩:=tk_of HT8.out;have k1:=cell_at HX8.out 1;have k2:=cell_at HX8.out 2;have k3:=cell_at HX8.out 3;have k4:=cell_at HX8.out 4;simp at k1 k2 k3 k4;exact ⟨cell_step k1 h,cell_step k2 h,cell_step k3 h,cell_step k4 h,cell_step t3 h⟩
   clear hw8 k5 kf HX6 HT6 HZ6 HB6 HV6 HA6 HG6 hX6 hz6 hB6;refine wp_region_any (by kernel_rfl) ?_;change wpAny _ _ _ _ _ _ _ (World.drew _);refine qV (i:=0) rfl ?_
   try simp only [qS]
   refine qV (i:=2) rfl ?_
   try simp only [qS]
   refine qV (i:=3) rfl ?_
   try simp only [qS]
   refine qV (i:=5) rfl ?_
   try simp only [qS]
   refine qV (i:=8) rfl ?_
   try simp only [qS]
   refine qV (i:=9) rfl ?_
   try simp only [qS]
   refine qV (i:=10) rfl ?_
   try simp only [qS]
   refine qV (i:=11) rfl ?_
   try simp only [qS]
   have HS:(fun V:World=>V.cell? ⟨X,1,none⟩ = some (.int .i64 x.i.kind)/\V.cell? ⟨X,2,none⟩ = some (.int .i64 x.i.links)/\V.cell? ⟨X,3,none⟩ = some (.int .i64 x.i.size)/\V.cell? ⟨X,4,none⟩ = some (.int .i64 x.i.stamp)/\V.cell? ⟨B,3,none⟩ = some (.int .i64 dn)) w8.drew:=HSG.out _ (bel_drew (Below.refl _ _));refine Fst.any_of (late:=fun k=>[17,18].contains k) (S:=fun V:World=>V.cell? ⟨X,1,none⟩ = some (.int .i64 x.i.kind)/\V.cell? ⟨X,2,none⟩ = some (.int .i64 x.i.links)/\V.cell? ⟨X,3,none⟩ = some (.int .i64 x.i.size)/\V.cell? ⟨X,4,none⟩ = some (.int .i64 x.i.stamp)/\V.cell? ⟨B,3,none⟩ = some (.int .i64 dn)) _ _ _ _ ?_;refine Fst.tk (ls:=[17,18]) (i:=1) (v:=?v35) rfl (Or.inl ⟨by rfl,?h35⟩) HS ?r35
   case h35=>(rintro V ⟨s1,s2,s3,s4,s0⟩;go_simp;try with_reducible rfl)
   try simp only [qS]
   refine Fst.tk (ls:=[17,18]) (i:=4) (v:=?v36) rfl (Or.inl ⟨by rfl,?h36⟩) HS ?r36
   case h36=>(rintro V ⟨s1,s2,s3,s4,s0⟩;go_simp;try with_reducible rfl)
   try simp only [qS]
   refine Fst.tk (ls:=[17,18]) (i:=12) (v:=?v37) rfl (Or.inl ⟨by rfl,?h37⟩) HS ?r37
   case h37=>(rintro V ⟨s1,s2,s3,s4,s0⟩;go_simp;try with_reducible rfl)
   try simp only [qS]
   refine Fst.one (late:=fun k=>[17,18].contains k) (i:=6) (by kernel_rfl) rfl (fun K hK=>?_)
   go_simp
   refine (HC2.out _ (bel_drew (Below.refl _ _))).mono ?_;rintro e w9 ⟨rfl,hb9⟩
   (try go_wp2_with fail)
   first | (refine hK _ _ (HSG.out _ (hb9)) ?_;clear hK K) | skip
   try simp only [qS]
   refine Fst.one (late:=fun k=>[17,18].contains k) (i:=7) (by kernel_rfl) rfl (fun K hK=>?_)
   go_simp
   (try rw [HMX.out])
   (try go_wp2_with fail)
   first | (refine hK _ _ (HSG.out _ (hb9)) ?_;clear hK K) | skip
   try simp only [qS]
   (try rw [HMX.out])
   have HR9:Hid (Bw w8 w9):=hb9;clear hb9 HS;have HB9:Hid (Bw w w9):=HB8.out.trans (HR9.out.mono HB8.out.size);have HT9:Hid (w9.heap[B]? = some (BTk (.slice ao nn cap) vo vs dn cl c)):=(HR9.out.block _ hB8).trans HT8.out;have HZ9:Hid (w9.heap[w.heap.size]? = some BR0):=(HR9.out.block _ hz8).trans HZ8.out;have HX9:Hid (w9.heap[X]? = some (B8 x.i.gen x.i.kind x.i.links x.i.size x.i.stamp (.slice p m q) (.slice x.ep x.en x.ec) x.i.next)):=(HR9.out.block _ hX8).trans HX8.out;have HV9:Hid (TabAt (fun b=>b < w.heap.size) w9 (.slice ao nn cap) L):=HV8.out.up HR9.out;have HA9:Hid (At ER (fun b=>X < b) w9 (.slice p m q) (Nf.wrO x.i c)):=HA8.out.up HR9.out;have HG9:Hid (At EE (fun b=>b < X) w9 (.slice x.ep x.en x.ec) x.i.ents/\x.i.ents.length<=3518437208883):=⟨HG8.out.1.up HR9.out,HG8.out.2⟩;have hX9:X < w9.heap.size:=(qL HX9.out);have hz9:=(qL HZ9.out);have hB9:=(qL HT9.out);refine Fst.one (late:=fun k=>[17,18].contains k) (i:=13) (by kernel_rfl) rfl (fun K hK=>?_)
   go_simp
   refine (HC3.out _).mono ?_;rintro e v1 ⟨rfl,hb1⟩;have HB1:Hid (Bw w v1):=HB9.out.trans (hb1.mono HB9.out.size);have HT1:=qK hb1 HT9;have HZ1:=qK hb1 HZ9;have HX1:=qK hb1 HX9;have HV1:Hid (TabAt (fun b=>b < w.heap.size) v1 (.slice ao nn cap) L):=HV9.out.up hb1;have HA1:Hid (At ER (fun b=>X < b) v1 (.slice p m q) (Nf.wrO x.i c)):=HA9.out.up hb1;have HG1:Hid (At EE (fun b=>b < X) v1 (.slice x.ep x.en x.ec) x.i.ents/\x.i.ents.length<=3518437208883):=⟨HG9.out.1.up hb1,HG9.out.2⟩;have k1:=cell_at HX1.out 1;have k2:=cell_at HX1.out 2;have k3:=cell_at HX1.out 3;have k4:=cell_at HX1.out 4;have kf:=fr_at HX1.out;simp at k1 k2 k3 k4;clear HC2 HX8 HT8 HZ8 HB8 HV8 HA8 HG8 hX8 hz8 hB8 HB9 HT9 HZ9 HX9 HV9 HA9 HG9 hX9 hz9 hB9 HC3
   (try go_wp2_with fail)
   first | (refine hK _ _ (HSG.out _ (HR9.out.trans (hb1.mono HR9.out.size))) ?_;clear hK K) | skip
   try simp only [qS]
   have HS:(fun V:World=>V.cell? ⟨X,1,none⟩ = some (.int .i64 x.i.kind)/\V.cell? ⟨X,2,none⟩ = some (.int .i64 x.i.links)/\V.cell? ⟨X,3,none⟩ = some (.int .i64 x.i.size)/\V.cell? ⟨X,4,none⟩ = some (.int .i64 x.i.stamp)/\V.cell? ⟨B,3,none⟩ = some (.int .i64 dn)) v1:=HSG.out _ (HR9.out.trans (hb1.mono HR9.out.size));refine Fst.tk (ls:=[17,18]) (i:=14) (v:=?v38) rfl (Or.inl ⟨by rfl,?h38⟩) HS ?r38
   case h38=>(rintro V ⟨s1,s2,s3,s4,s0⟩;go_simp;try with_reducible rfl)
   try simp only [qS]
   refine Fst.tk (ls:=[17,18]) (i:=15) (v:=?v39) rfl (Or.inl ⟨by rfl,?h39⟩) HS ?r39
   case h39=>(rintro V ⟨s1,s2,s3,s4,s0⟩;go_simp;try with_reducible rfl)
   try simp only [qS]
   refine Fst.takeP (ls:=[17,18]) (i:=16) (v:=?v40) rfl (by kernel_rfl) (by kernel_rfl) (by kernel_rfl) (by kernel_rfl) (fun _ _ _ h=>h) (Or.inl ⟨by rfl,?h40⟩) HS ?r40
   case h40=>(intro V _;go_simp;try with_reducible rfl)
   try simp only [qS]
   clear HS hb1 HSG;refine Fst.rest (by kernel_rfl) ?_;refine qV (i:=17) rfl ?_
   try simp only [qS]
   refine wpAny_ready (rs:=[18]) (by kernel_rfl) (by simp) ?_;refine AllReady.cons rfl (fun K hK=>?_) AllReady.nil
   go_simp
   (try go_wp2_with fail)
   first | (refine hK _ _ ?_;clear hK K) | skip
   try simp only [qS]
   refine wpAny_done (by kernel_rfl) ?_ _;obtain ⟨v2,hv2⟩:=qF ((((v1.setCell ⟨X,1,none⟩ (.int .i64 z.kind)).setCell ⟨X,2,none⟩ (.int .i64 z.links)).setCell ⟨X,3,none⟩ (.int .i64 z.size)).setCell ⟨X,4,none⟩ (.int .i64 z.stamp));rw [← hv2];have hv3:v2 = v1.setCells X 1 [.int .i64 z.kind,.int .i64 z.links,.int .i64 z.size,.int .i64 z.stamp]:=hv2;obtain ⟨y,hy⟩:∃ y:Rw,y = ⟨z,p,m,q,x.ep,x.en,x.ec⟩:=⟨_,rfl⟩;have HYI:Hid (y.i = z):=by show _ = _;rw [hy]
   have HX2:Hid (v2.heap[X]? = some (B8 x.i.gen z.kind z.links z.size z.stamp (.slice p m q) (.slice x.ep x.en x.ec) x.i.next)):=by
    show v2.heap[X]? = _;rw [hv2];have h4:=set_at (set_at (set_at (set_at HX1.out 1 (.int .i64 z.kind)) 2 (.int .i64 z.links)) 3 (.int .i64 z.size)) 4 (.int .i64 z.stamp);simpa using h4
   have HT2:Hid (v2.heap[B]? = some (BTk (.slice ao nn cap) vo vs dn cl c)):=by show _ = _;rw [hv3];exact (setCells_off _ _ _ (by omega)).trans HT1.out
   have HZ2:Hid (v2.heap[w.heap.size]? = some BR0):=by show _ = _;rw [hv3];exact (setCells_off _ _ _ (by omega)).trans HZ1.out
   have HB2:Hid (Bw w v2):=by show Below _ _ _;rw [hv3];exact setCells_below (by omega) _ _ _ HB1.out
   have HV2:Hid (TabAt (fun b=>b < w.heap.size) v2 (.slice ao nn cap) L):=by show TabAt _ _ _ _;rw [hv3];exact setCells_tab (by show ¬ X < w.heap.size;omega) _ _ _ HV1.out
   have HG2:Hid (Good (fun b=>b≠X) v2 y):=by
    show Good _ _ _;rw [hy,hv3];obtain ⟨q1,q2,q3,q4⟩:=HWX.out;refine ⟨?_,?_,?_⟩
    ·show At ER _ _ (.slice p m q) z.runs;rw [q3];exact setCells_ats (S:=fun b=>b≠X) (fun h=>h rfl) _ _ _ (HA1.out.imp (fun b hb _=>by show b≠X;omega))
    ·show At EE _ _ (.slice x.ep x.en x.ec) z.ents;rw [q4];exact setCells_ats (S:=fun b=>b≠X) (fun h=>h rfl) _ _ _ (HG1.out.1.imp (fun b hb _=>by show b≠X;omega))
    ·show okI z;unfold okI;rw [q3,q4];exact ⟨HOK.out.1,HOK.out.2,HG1.out.2⟩
   have HVI:Hid (VI y = .agg #[.int .i64 x.i.gen,.int .i64 z.kind,.int .i64 z.links,.int .i64 z.size,.int .i64 z.stamp,.slice p m q,.slice x.ep x.en x.ec,.int .i64 x.i.next]):=by
    show _ = _;rw [hy];show VI ⟨z,p,m,q,x.ep,x.en,x.ec⟩ = _;rw [← HWX.out.1,← HWX.out.2.1]
   have hz2:=(qL HZ2.out);have j0:=cell_at HX2.out 0;have j1:=cell_at HX2.out 1;have j2:=cell_at HX2.out 2;have j3:=cell_at HX2.out 3;have j4:=cell_at HX2.out 4;have j5:=cell_at HX2.out 5;have j6:=cell_at HX2.out 6;have j7:=cell_at HX2.out 7;simp at j0 j1 j2 j3 j4 j5 j6 j7;clear hv2 hv3 hy k1 k2 k3 k4 kf HB1 HT1 HZ1 HX1 HV1 HA1 HG1;go_wp2_with fail;rw [← HVI.out];refine (nput_any (.slice ao nn cap) vo vs dn cl c L B y v2 HT2.out HV2.out HG2.out).mono ?_;rintro e v9 ⟨u,rfl,hu9,hn9,hg9⟩;rw [HYI.out] at hn9 ⊢;rw [HTb.out] at hn9;have HZ9:Hid (v9.heap[w.heap.size]? = some BR0):=(hg9.block _ hz2 (by simp;omega)).trans HZ2.out;obtain ⟨g0,g1,g2,g3,g4,g5,g6,g7,g8,g9⟩:=rp_of HZ9.out;have gg:=fr_at HZ9.out;have HU9:Hid (v9.heap[B]? = some (BTk u vo vs dn cl c)):=hu9;have HN9:Hid (Nf.Now (v2.heap.size + 1) v9 (.slice ao nn cap) u (pl L) T):=hn9;have HG9:Hid (w.grownBy v9 (some B)):=grown_trans (grown_of_below HB2.out _) hg9;obtain ⟨pe,hpe⟩:=qE (putErr (pl L) c.no c.gen z);rw [hpe] at HRb ⊢;clear hu9 hn9 hg9 hpe;go_wp2
   (try simp only [Exit.inBlock,Exit.then])
   refine bodyPost_ret (v:=R) ?_ rfl ⟨u,rfl,?_,?_,?_⟩
   ·rw [results_cell1 rfl,← HRb.out]
    go_simp
   ·repeat (with_reducible refine (Below.heap_setCell _ _ _ _ (show B≠w.heap.size from hBne)).trans ?_)
    exact HU9.out
   ·rcases HN9.out with ⟨h1,h2⟩ | ⟨L',h1,h2⟩
    ·exact .inl ⟨h1,h2⟩
    ·refine .inr ⟨L',?_,h2⟩;refine TabAt.imp ?_ (S:=fun b=>v2.heap.size + 1<=b) (fun b hb _=>by omega);exact setCells_tab (A:=w.heap.size) (S:=fun b=>v2.heap.size + 1<=b) (by show ¬ v2.heap.size + 1<=w.heap.size;omega) (cV pe 0 0 z.kind z.links z.size z.stamp) 0 _ h1
   ·repeat (with_reducible refine gr_set ?_ (.inl (Nat.le_refl w.heap.size)) _)
    exact HG9.out
  ·have hz:(we != 0) = true:=by simpa using hw0
   have HRb:Hid (VBad we = R):=by
    have:=HRR.out;unfold Nf.wrR at this;rw [HF.out,HXX.out,HDZ.out,if_neg HN0.out,if_neg hd5,HWE.out,if_pos hw0] at this;exact this
   have HTb:Hid (pl L = T):=by
    have:=HTT.out;unfold Nf.wrT at this;rw [HF.out,HXX.out,HDZ.out,if_neg HN0.out,if_neg hd5,HWE.out,if_pos hw0] at this;exact this
   clear HRR HTT hw0;go_wp2_with fail;refine (wrong_any we _).mono ?_;rintro e w7 ⟨rfl,hb7⟩;have HB7:Hid (Bw w w7):=HB5.out.trans (hb7.mono HB5.out.size);have HZ7:=qK hb7 HZ5;have HT7:=qK hb7 HT5;obtain ⟨g0,g1,g2,g3,g4,g5,g6,g7,g8,g9⟩:=rp_of HZ7.out;have gg:=fr_at HZ7.out;clear hb7;go_wp2
   (try simp only [Exit.inBlock,Exit.then])
   refine bodyPost_ret (v:=R) ?_ rfl ⟨.slice ao nn cap,rfl,?_,.inl ⟨rfl,HTb.out.symm⟩,?_⟩
   ·rw [results_cell1 rfl,← HRb.out]
    go_simp
   ·repeat (with_reducible refine (Below.heap_setCell _ _ _ _ (show B≠w.heap.size from hBne)).trans ?_)
    exact HT7.out
   ·repeat (with_reducible refine gr_set ?_ (.inl (Nat.le_refl w.heap.size)) _)
    exact grown_of_below HB7.out _
 ·have hz:(fe != 0) = true:=by simpa using h0
  have HRb:Hid (VBad fe = R):=by
   have:=HRR.out;unfold Nf.wrR at this;rw [HF.out,if_pos h0] at this;exact this
  have HTb:Hid (pl L = T):=by
   have:=HTT.out;unfold Nf.wrT at this;rw [HF.out,if_pos h0] at this;exact this
  clear HRR HTT HXI h0 HG HF;go_wp2_with fail;rw [← hY];clear hY;refine (wrong_any fe _).mono ?_;rintro e w7 ⟨rfl,hb7⟩;have HB7:Hid (Bw w w7):=HBY.out.trans (hb7.mono HBY.out.size);have HZ7:=qK hb7 HZ;have HT7:=qK hb7 HTY;obtain ⟨g0,g1,g2,g3,g4,g5,g6,g7,g8,g9⟩:=rp_of HZ7.out;have gg:=fr_at HZ7.out;clear hb7;go_wp2
  (try simp only [Exit.inBlock,Exit.then])
  refine bodyPost_ret (v:=R) ?_ rfl ⟨.slice ao nn cap,rfl,?_,.inl ⟨rfl,HTb.out.symm⟩,?_⟩
  ·rw [results_cell1 rfl,← HRb.out]
   go_simp
  ·repeat (with_reducible refine (Below.heap_setCell _ _ _ _ (show B≠w.heap.size from hBne)).trans ?_)
   exact HT7.out
  ·repeat (with_reducible refine gr_set ?_ (.inl (Nat.le_refl w.heap.size)) _)
   exact grown_of_below HB7.out _
end Go.Proofs.YtneojimodomohaaGreat
