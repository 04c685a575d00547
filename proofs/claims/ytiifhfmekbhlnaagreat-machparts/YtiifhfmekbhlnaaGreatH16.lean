/- Part 16. -/
import Derived.Lib.MinMax
import Derived.Maps.OwnOps
import Derived.Test.YtiifhfmekbhlnaaGreatH15
set_option maxHeartbeats 8000000
set_option maxRecDepth 100000
set_option linter.unusedSimpArgs false
namespace Go.Proofs.YtiifhfmekbhlnaaGreat
open ChangeShapes WideShapes ChangeAt RowKit Deep It
namespace Fst
section
variable {P:Program} {ops:Array Oper} {Q:Exit->Act->World->Prop} {md:Region.Mode} {S:World->Prop} {late:Nat->Bool}
theorem si {i:Nat}{oi:Oper}{n:Nat}{l:Array Bool}{a:Act}{w:World}(hi:ops[i]?=some oi)(h:∀ K':Act->World->Prop,(∀ a w,S w->jJ P md ops Q late S n (l.setIfInBounds i true) a w->K' a w)->if Region.wanted oi (yielded ops a.tmps)=true then Oper.wp P oi a w K' Q else K' (a.put oi.dst undef) w) :
  wpOp P ops Q i (λa' w'=>Sl late S (l.setIfInBounds i true) w'/\jJ P md ops Q late S n (l.setIfInBounds i true) a' w') a w:=by
 have:=h (λa' w'=>Sl late S (l.setIfInBounds i true) w'/\jJ P md ops Q late S n (l.setIfInBounds i true) a' w') (λa' w' b h=>⟨.inr b,h⟩);unfold wpOp;simp only[hi];split
 ·rename_i hw;rw[MC hw]at this;exact .inl this
 ·rename_i hw;rw[ME hw]at this;exact this
theorem one {i:Nat}{oi:Oper}{n:Nat}{l:Array Bool}{a:Act}{w:World}(hr:Region.ready md ops l=[i])(hi:ops[i]?=some oi)(h1:∀ K':Act->World->Prop,(∀ a w,S w->jJ P md ops Q late S n (l.setIfInBounds i true) a w->K' a w)->if Region.wanted oi (yielded ops a.tmps)=true then Oper.wp P oi a w K' Q else K' (a.put oi.dst undef) w):jJ P md ops Q late S (n+1) l a w:=by
 refine⟨λh=>(by rw[hr]at h;cases h),λk b=>?_⟩;rw[hr]at b;rcases Ni.1 b with rfl | b
 ·exact si hi h1
 ·cases b
theorem both {i j:Nat}{oi oj:Oper}{n:Nat}{l:Array Bool}{a:Act}{w:World}(hr:Region.ready md ops l=[i,j])(hi:ops[i]?=some oi)(hj:ops[j]?=some oj)(h1:∀ K':Act->World->Prop,(∀ a w,S w->jJ P md ops Q late S n (l.setIfInBounds i true) a w->K' a w)->if Region.wanted oi (yielded ops a.tmps)=true then Oper.wp P oi a w K' Q else K' (a.put oi.dst undef) w)(h2:∀ K':Act->World->Prop,(∀ a w,S w->jJ P md ops Q late S n (l.setIfInBounds j true) a w->K' a w)->if Region.wanted oj (yielded ops a.tmps)=true then Oper.wp P oj a w K' Q else K' (a.put oj.dst undef) w):jJ P md ops Q late S (n+1) l a w:=by
 refine⟨λh=>(by rw[hr]at h;cases h),λk b=>?_⟩;rw[hr]at b;rcases Ni.1 b with rfl | b
 ·exact si hi h1
 ·rcases Ni.1 b with rfl | b
  ·exact si hj h2
  ·cases b
theorem KK {i:Nat} {oi:Oper}{v:Value} (hi:ops[i]?=some oi)(hsel:∀ (j:Nat) (o:Oper) cs b,ops[j]?=some o->o.op≠.select cs b)(hQ:∀ c a w,Q (.panic c) (a.put oi.dst v) w->Q (.panic c) a w) (hli:late i=false) :
  ∀ (n:Nat) (l:Array Bool) (a:Act) (w:World),
   (∀ j oj,ops[j]?=some oj->j≠i->l.getD j true=false->(∀ e∈oj.after,Region.binds md e=true->e.on≠i)->oi.apart ops oj=true) ->
   i∈Region.ready md ops l->YieldsIf P ops (λ_=>True) oi v a->Sl late S l w ->
   jJ P md ops Q late S n (l.setIfInBounds i true) (a.put oi.dst v) w->jJ P md ops Q late S (n+1) l a w:=by
 have m:∀ (l:Array Bool) (w:World),Sl late S l w->Sl late S (l.setIfInBounds i true) w:=λl w h=>by
  rcases h with⟨k,q,g⟩ | h
  ·exact .inl ⟨k,q,getD_set_true g⟩
  ·exact .inr h
 intro n
 induction n with
 | zero =>
  intro l a w _ r C E H;refine⟨λh=>(by rw[h]at r;cases r),λj D=>?_⟩
  by_cases hji:j=i
  ·subst hji;exact C.wpOp hi trivial ⟨m _ _ E,H⟩
  ·have:=ready_mono D hji;rw[H.1]at this
   cases this
 | succ n ih =>
  intro l a w d r C E H;refine⟨λh=>(by rw[h]at r;cases r),λj D=>?_⟩
  by_cases hji:j=i
  ·subst hji;exact C.wpOp hi trivial ⟨m _ _ E,H⟩
  ·have B:=H.2 j (ready_mono D hji);obtain⟨p,oj,s,y⟩:=mem_ready.1 D;have t:=yV (mem_ready.1 r).1;have u:∀ e∈oj.after,Region.binds md e=true->e.on≠i:=λe N O I=>by
    have B:=y e N O;rw[I,t]at B
    cases B
   have L:=wpOp_putIf (S:=λ_=>True) s (d j oj s hji p u) (λcs b=>hsel i oi cs b hi) (λcs b=>hsel j oj cs b s) hQ C B;have f:∀ k z,ops[k]?=some z->k≠i->(l.setIfInBounds j true).getD k true=false ->
     (∀ e∈z.after,Region.binds md e=true->e.on≠i)->oi.apart ops z=true:=λk z q J A R=>by
    refine d k z q J ?_ R
    by_cases hjk:j=k
    ·subst hjk;exact p
    ·rw[getD_set_ne true hjk]at A;exact A
   refine wpOp_mono (λT K U=>?_) L;obtain⟨F,G,M⟩:=U;have x:Sl late S (l.setIfInBounds j true) K:=by
    rcases G with⟨k,q,g⟩ | h
    ·refine .inl ⟨k,q,?_⟩;rw[<-Pj _ _ hji,getD_set_ne false (λe=>by subst e;rw[hli]at q;cases q)]at g;exact g
    ·exact .inr h
   refine⟨x,ih (l.setIfInBounds j true) T K f (ready_mono r (Ne.symm hji)) F x ?_⟩;rw[Pj _ _ hji];exact M
theorem LK {ls:List Nat} {i:Nat}{oi:Oper} {v:Value}{n:Nat} {l:Array Bool}{a:Act} {w:World}(hi:ops[i]?=some oi) (hs:Region.noSelect ops=true)(hf:Region.free md ops l i=true) (hr:(Region.ready md ops l).contains i=true)(hb:ls.contains i=false)
  (hQ:∀ c a w,Q (.panic c) (a.put oi.dst v) w->Q (.panic c) a w)(hy:YieldsIf P ops (λ_=>True) oi v a) (hS:S w)(h:jJ P md ops Q (λk=>ls.contains k) S n (l.setIfInBounds i true) (a.put oi.dst v) w):jJ P md ops Q (λk=>ls.contains k) S (n+1) l a w :=
 KK hi (Region.noSelect_spec hs) hQ hb n l a w (Region.free_spec hi hf) (by simpa using hr) hy (.inr hS) h
theorem done {n:Nat}{l:Array Bool}{a:Act}{w:World}(hr:Region.ready md ops l=[])(h:Q .normal a w):jJ P md ops Q late S n l a w:=by
 cases n with
 | zero=>exact⟨hr,h⟩
 | succ n=>exact⟨λ_=>h,λi b=>by rw[hr]at b;cases b⟩
end
end Fst
theorem Ey (l)(a)(d):dQ (Bs.Bl.rU l a d)/\(Bs.Bl.rU l a d).length<=5864062014805:=by
 unfold Bs.Bl.rU
 by_cases h:Bs.Bl.jV l a d=0
 ·rw[MC h];obtain⟨b,c,f⟩:=Bs.Bl.tN h;exact Ao (Bs.Bl.sG b c f)
 ·rw[ME h];exact⟨λr g=>by simp at g,qs⟩
namespace Nf
noncomputable def xC (x:cL) (c:fw):List (Int × ByteArray):=Bs.Bl.rU x.runs c.pl c.data
noncomputable def Im (x:cL) (c:fw):Int:=max x.size (Bs.Bl.fA (xC x c))
noncomputable def pH (x:cL) (c:fw) (dn:Int):cL:=if gE x (Im x c) dn=0 then { x with size:=Im x c,cF:=dn,runs:=xC x c } else { x with kind:=0,cH:=0,size:=0,cF:=0,runs:=xC x c }
noncomputable def room (L:List cL) (x:cL) (c:fw):Int:=wrap64 (wrap64 (eU L-Bl.ml x.runs)+Bl.ml (xC x c))
noncomputable def GM (L:List cL) (c:fw) (dn:Int):Value :=
 if gK L c.no c.gen 1 405≠0 then iM (gK L c.no c.gen 1 405)
 else if 512<c.data.size then iM 408
 else if Bs.Bl.jV (cY L c.no c.gen).runs c.pl c.data≠0 then iM (Bs.Bl.jV (cY L c.no c.gen).runs c.pl c.data)
 else if c.data.size=0 then nr 0 0 0 (cY L c.no c.gen).kind (cY L c.no c.gen).cH (cY L c.no c.gen).size (cY L c.no c.gen).cF ⟨#[]⟩ (.slice none 0 0) 0
 else if 8192<room L (cY L c.no c.gen) c then iM 407
 else nr (dM L c.no c.gen (pH (cY L c.no c.gen) c dn)) 0 0 (pH (cY L c.no c.gen) c dn).kind (pH (cY L c.no c.gen) c dn).cH (pH (cY L c.no c.gen) c dn).size (pH (cY L c.no c.gen) c dn).cF ⟨#[]⟩ (.slice none 0 0) 0
noncomputable def yx (L:List cL) (c:fw) (dn:Int):List cL :=
 if gK L c.no c.gen 1 405≠0 then L
 else if 512<c.data.size then L
 else if Bs.Bl.jV (cY L c.no c.gen).runs c.pl c.data≠0 then L
 else if c.data.size=0 then L
 else if 8192<room L (cY L c.no c.gen) c then L
 else IA L c.no c.gen (pH (cY L c.no c.gen) c dn)
end Nf
theorem Cw {S:Nat->Prop} (vi vo vs:Value) (dn cl:Int) (c:fw) (L:List Rw) (B:Nat) (w:World) (hB:w.1[B]? = some (gj vi vo vs dn cl c))(hv:cD S w vi L) (hdl:c.data.size<=maxLen) :
  Calls Tryz.prog 133 #[.pointer (some ⟨B,0,none⟩)] w λe w'=>∃ u,e=.returned (Nf.GM (pl L) c dn)/\w'.heap[B]?=some (gj u vo vs dn cl c)/\Nf.vJ (w.heap.size+1) w' vi u (pl L) (Nf.yx (pl L) c dn)/\w.grownBy w' (some B):=by
 have ca:Hid (c.data.size<=maxLen):=hdl;have cb:=(qL hB);obtain⟨W,hW⟩:=qF (w.alloc fJ);have au:Hid _:=qB hW;have aJ:Hid _:=qC hW;have av:=hH<|(au.out.block _ cb).trans hB;have HV:=hH<|(hv.imp (λ_ _ hl=>hl)).up au.out;have cA:w.1.size<W.1.size:=(qL aJ.out);have cB:B<W.1.size:=(qL av.out);have P:B≠w.1.size:=by omega
 obtain⟨F,a,bM,-,-⟩:=hv.open;obtain ⟨H,bN⟩:=qE L.length;rw[bN] at bM;subst bM;obtain⟨R,hR⟩:=qE (Nf.GM (pl L) c dn);obtain ⟨T,hT⟩:=qE (Nf.yx (pl L) c dn);rw[hR,hT];have t:Hid (Nf.GM (pl L) c dn=R):=hR;have C:=hH hT;obtain ⟨fe,bO⟩:=qE (Nf.gK (pl L) c.no c.gen 1 405);have HF:=hH bO;obtain ⟨dz,bP⟩:=qE c.data.size;have n:=hH bP;clear hv hB bO hR hT bN hdl bP;go_enter Tryz.func133,Tryz.ntmps133;go_wp2_with fail;rw [<-hW];clear hW;refine (oh (.slice F H a) vo vs dn cl c L B W av.out HV.out).mono ?_;rintro e w1 ⟨x,rfl,bf,bQ,f⟩;rw[HF.out] at bf |-;have aw:=qK f av;obtain⟨Y,hY⟩:=qF (w1.alloc (jC x));have aK:Bw w1 Y:=by rw [hY];exact qG _ _
 have ax:Bw W Y:=f.trans (aK.mono f.size);have ac:=hH<|au.out.trans (ax.mono au.out.size);have HZ:=qK ax aJ;have aj:=qK ax av;have ay:Hid _:=qC hY;have HG:=hH<|(bQ.imp (λ_ _ hl=>hl)).up aK;have bj:Hid (cD (λb=>b<w.1.size) Y (.slice F H a) L):=HV.out.up ax;have bk:=hH bf;have cc:=(qL HZ.out);have cd:=(qL aj.out);have bl:w.heap.size<w1.heap.size:=by have:=f.size;omega
 have cf:B<w1.heap.size:=by have:=f.size;omega
 have bm:w1.1.size<Y.1.size:=(qL ay.out);clear f aK ax bQ bf aJ av HV au
 by_cases h0:fe=0
 ·have I:Hid (cY (pl L) c.no c.gen = x.i):=by
   have:=bk.out;rw[MC h0] at this;exact this.symm
  have J:Hid (¬ fe≠0):=λh=>h h0
  obtain⟨-,-,-,-,-,-,-,-,-,-,-,-,-,-,aq⟩:=gh aw.out;have bn:¬ B=w1.heap.size:=by omega
  by_cases hd5:512 < dz
  ·have bo:(512:Int)<(dz:Int):=by omega
   have bp:=n.out;have o:Hid (iM 408=R):=by
    have:=t.out;unfold Nf.GM at this;rw [HF.out,I.out,n.out,ME J.out,MC hd5] at this;exact this
   have s:Hid (pl L=T):=by
    have:=C.out;unfold Nf.yx at this;rw [HF.out,I.out,n.out,ME J.out,MC hd5] at this;exact this
   subst h0;go_wp2_with fail;rw[<-hY];clear hY;refine (eV 408 _).mono ?_;rintro e w7 ⟨rfl,j⟩;have ad:=hH<|ac.out.trans (j.mono ac.out.size);have D:=qK j HZ;have af:=qK j aj;obtain⟨g0,g1,g2,g3,g4,g5,g6,g7,g8,g9⟩:=ev D.out;have gg:=dw D.out;clear j;go_wp2
   (try simp only[Exit.inBlock,Exit.then])
   refine MK (v:=R) ?_ rfl ⟨.slice F H a,rfl,?_,.inl ⟨rfl,s.out.symm⟩,?_⟩
   ·rw [cN rfl,<-o.out]
    go_simp
   ·repeat (with_reducible refine (MM _ _ _ _ (show B≠w.1.size from P)).trans ?_)
    exact af.out
   ·repeat (with_reducible refine eN ?_ (.inl (MI w.1.size)) _)
    exact cP ad.out _
  have bo:¬ (512:Int)<(dz:Int):=by omega
  have bp:=n.out;subst h0;go_wp2_with fail;rw[<-hY];clear hY;obtain ⟨X,hX⟩:=qE w1.1.size;rw [hX]at ay HG bl cf bm bn
  (try rw [hX])
  clear hX aq bp aw;obtain⟨we,bg⟩:=qE (Bs.Bl.jV x.i.runs c.pl c.data);have Z:Hid (Bs.Bl.jV x.i.runs c.pl c.data=we):=bg;have HC:Hid (∀ V,Bw Y V->Calls Tryz.prog 159 #[.slice x.rp x.rn x.rc,.int .i64 c.pl,.string c.data] V λe w'=>∃ p m q,e=.returned (.tuple #[.slice p m q,.int .i64 we])/\At ER (λb=>X < b) w' (.slice p m q) (Nf.xC x.i c)/\Bw Y w'):=λV h=>by
   have hg:=sg (HG.out.up h);refine (Bs.Du (.slice x.rp x.rn x.rc) x.i.runs c.pl c.data V hg.1 hg.2 ca.out).mono ?_;rintro e w' ⟨r,M,h2,h3⟩;rw[bg] at M;have ha:=Hh h2;obtain⟨F,a,hr,-,-⟩:=ha.open;subst hr;have hs:=h.size;exact ⟨_,_,_,M,ha.imp (λb hb _=>by show X<b;omega),h.trans (h3.mono h.size)⟩
  have g:Hid (∀ V:World,Bw Y V->V.cell? ⟨X,5,none⟩ = some (.slice x.rp x.rn x.rc)/\V.cell? ⟨B,12,none⟩=some (.int .i64 c.pl)/\V.cell? ⟨B,14,none⟩ = some (.string c.data)):=λV h=>by
   obtain⟨-,-,-,-,-,-,-,-,-,-,-,-,cy,-,aq⟩:=gh aj.out;have k5:=cJ ay.out 5;simp at k5;exact ⟨cC k5 h,cC cy h,cC aq h⟩
  clear bg;refine NX (by kernel_rfl) ?_;change wpAny _ _ _ _ _ _ _ (World.drew _);refine qV (i:=0) rfl ?_
  try simp only [qS]
  refine qV (i:=2) rfl ?_
  try simp only[qS]
  refine qV (i:=3) rfl ?_
  try simp only [qS]
  refine qV (i:=4) rfl ?_
  try simp only[qS]
  refine qV (i:=5) rfl ?_
  try simp only [qS]
  refine qV (i:=7) rfl ?_
  try simp only[qS]
  refine qV (i:=8) rfl ?_
  try simp only [qS]
  refine qV (i:=9) rfl ?_
  try simp only[qS]
  refine qV (i:=10) rfl ?_
  try simp only [qS]
  have HS:(λV:World=>V.cell? ⟨X,5,none⟩=some (.slice x.rp x.rn x.rc)/\V.cell? ⟨B,12,none⟩=some (.int .i64 c.pl)/\V.cell? ⟨B,14,none⟩=some (.string c.data)) Y.drew:=g.out _ (cX (MJ _ _));refine Fst.iu (late:=λk=>[12,13,14,15,16,17].contains k) (S:=λV:World=>V.cell? ⟨X,5,none⟩ = some (.slice x.rp x.rn x.rc)/\V.cell? ⟨B,12,none⟩=some (.int .i64 c.pl)/\V.cell? ⟨B,14,none⟩ = some (.string c.data)) _ _ _ _ ?_;refine Fst.tk (ls:=[12,13,14,15,16,17]) (i:=1) (v:=?v10) rfl (Or.inl ⟨by rfl,?h10⟩) HS ?r10
  case h10=>(rintro V ⟨s5,bR,bS⟩;go_simp;try with_reducible rfl)
  try simp only[qS]
  refine Fst.tk (ls:=[12,13,14,15,16,17]) (i:=6) (v:=?v11) rfl (Or.inl ⟨by rfl,?h11⟩) HS ?r11
  case h11=>(rintro V ⟨s5,bR,bS⟩;go_simp;try with_reducible rfl)
  try simp only [qS]
  refine Fst.tk (ls:=[12,13,14,15,16,17]) (i:=11) (v:=?v12) rfl (Or.inl ⟨by rfl,?h12⟩) HS ?r12
  case h12=>(rintro V ⟨s5,bR,bS⟩;go_simp;try with_reducible rfl)
  try simp only[qS]
  refine Fst.rest (by kernel_rfl) ?_;refine Nc (rs:=[12]) (by kernel_rfl) (by simp) ?_;refine M7 rfl (λK l=>?_) M9
  go_simp
  refine (HC.out _ (cX (MJ _ _))).mono ?_;rintro e w5 ⟨p,m,q,rfl,bT,G⟩;have ak:=hH<|ac.out.trans (G.mono ac.out.size);have ag:=qK G aj;have al:=qK G HZ;have aa:=qK G ay;have aL:=hH<|HG.out.up G;have aM:Hid (cD (λb=>b<w.1.size) w5 (.slice F H a) L):=bj.out.up G;have aN:=hH bT;have bq:X<w5.1.size:=(qL aa.out);have br:=(qL al.out);have bs:=(qL ag.out);clear G bT HC g HS ac aj HZ ay HG bj cc cd bm
  (try go_wp2_with fail)
  first | (refine l _ _ ?_;clear l K) | skip
  try simp only [qS]
  refine qV (i:=13) rfl ?_
  try simp only[qS]
  refine qV (i:=14) rfl ?_
  try simp only [qS]
  refine qV (i:=15) rfl ?_
  try simp only[qS]
  refine Nc (rs:=[16]) (by kernel_rfl) (by simp) ?_;refine M7 rfl (λK l=>?_) M9
  go_simp
  (try go_wp2_with fail)
  first | (refine l _ _ ?_;clear l K) | skip
  try simp only [qS]
  refine Nc (rs:=[17]) (by kernel_rfl) (by simp) ?_;refine M7 rfl (λK l=>?_) M9
  go_simp
  (try go_wp2_with fail)
  first | (refine l _ _ ?_;clear l K) | skip
  try simp only[qS]
  refine N1 (by kernel_rfl) ?_ _
  by_cases hw0:we=0
  ·subst hw0;have am:Hid (¬ (0:Int)≠0):=λh=>h rfl
   obtain ⟨-,-,-,-,-,-,-,-,-,-,-,-,-,-,aq⟩:=gh ag.out
   by_cases hd0:dz = 0
   ·have bt:c.data=⟨#[]⟩:=by
     have M:=n.out;rw [hd0]at M
     cases hc:c.data with
     | mk d=>rw [hc]at M;simp [ByteArray.size]at M;rw [M]
    rw[bt] at aq;have o:Hid (nr 0 0 0 x.i.kind x.i.cH x.i.size x.i.cF ⟨#[]⟩ (.slice none 0 0) 0=R):=by
     have:=t.out;unfold Nf.GM at this;rw [HF.out,I.out,n.out,ME J.out,ME hd5,Z.out,ME am.out,MC hd0]at this;exact this
    have s:Hid (pl L = T):=by
     have:=C.out;unfold Nf.yx at this;rw[HF.out,I.out,n.out,ME J.out,ME hd5,Z.out,ME am.out,MC hd0] at this;exact this
    have k1:=cJ aa.out 1;have k2:=cJ aa.out 2;have k3:=cJ aa.out 3;have k4:=cJ aa.out 4;simp at k1 k2 k3 k4;obtain⟨g0,g1,g2,g3,g4,g5,g6,g7,g8,g9⟩:=ev al.out;have gg:=dw al.out;clear t C bt;go_wp2
    (try simp only[Exit.inBlock,Exit.then])
    refine MK (v:=R) ?_ rfl ⟨.slice F H a,rfl,?_,.inl ⟨rfl,s.out.symm⟩,?_⟩
    ·rw [cN rfl,<-o.out]
     go_simp
    ·repeat (with_reducible refine (MM _ _ _ _ (show B≠w.1.size from P)).trans ?_)
     exact ag.out
    ·repeat (with_reducible refine eN ?_ (.inl (MI w.1.size)) _)
     exact cP ak.out _
   have cg:(c.data.toList==([]:List UInt8)) = false:=by
    have M:=n.out
    cases hq:c.data.toList==([]:List UInt8) with
    | false=>rfl
    | true =>
     have h2:c.data.toList=[]:=by simpa using hq
     have h3:c.data.toList.length = c.data.size:=by simp[ByteArray.toList_eq]
     rw [h2]at h3;simp at h3;omega
   have aO:Hid (∀ V,Bw w5 V->Calls Tryz.prog 42 #[.slice F H a] V λe w'=>e = .returned (.int .i64 (eU (pl L)))/\Bw w5 w'):=λV h=>by
    refine (tU _ L V (aM.out.up h)).mono ?_;rintro e w' ⟨M,h2⟩;exact ⟨M,h.trans (h2.mono h.size)⟩
   have aP:Hid (∀ V,Bw w5 V->Calls Tryz.prog 75 #[.slice x.rp x.rn x.rc] V λe w'=>e=.returned (.int .i64 (Bl.ml x.i.runs))/\Bw w5 w'):=λV h=>by
    refine (pq _ x.i.runs V (aL.out.up h).1.fields).mono ?_;rintro e w' ⟨M,h2⟩;exact⟨M,h.trans (h2.mono h.size)⟩
   have aQ:Hid (∀ V,Bw w5 V->Calls Tryz.prog 75 #[.slice p m q] V λe w'=>e = .returned (.int .i64 (Bl.ml (Nf.xC x.i c)))/\Bw w5 w'):=λV h=>by
    refine (pq _ (Nf.xC x.i c) V (aN.out.up h).fields).mono ?_;rintro e w' ⟨M,h2⟩;exact ⟨M,h.trans (h2.mono h.size)⟩
   have Q:Hid (Nf.room (pl L) x.i c=wrap64 (wrap64 (eU (pl L) - Bl.ml x.i.runs)+Bl.ml (Nf.xC x.i c))):=rfl;obtain ⟨s1,bU⟩:=qE (eU (pl L));obtain⟨s2,bV⟩:=qE (Bl.ml x.i.runs);obtain ⟨s3,bW⟩:=qE (Bl.ml (Nf.xC x.i c));rw[bU] at aO Q;rw[bV] at aP Q;rw[bW] at aQ Q;have g:Hid (∀ V:World,Bw w5 V->V.cell? ⟨B,0,none⟩=some (.slice F H a)/\V.cell? ⟨X,5,none⟩ = some (.slice x.rp x.rn x.rc)):=λV h=>by
    obtain⟨t0,-,-,-,-,-,-,-,-,-,-,-,-,-,-⟩:=gh ag.out;have k5:=cJ aa.out 5;simp at k5;exact ⟨cC t0 h,cC k5 h⟩
   clear bU bV bW;go_wp2_with fail;apply lM
   ·intro cz;refine NX (by kernel_rfl) ?_;change wpAny _ _ _ _ _ _ _ (World.drew _);refine qV (i:=0) rfl ?_
    try simp only [qS]
    refine qV (i:=1) rfl ?_
    try simp only[qS]
    refine qV (i:=2) rfl ?_
    try simp only [qS]
    refine qV (i:=3) rfl ?_
    try simp only[qS]
    refine qV (i:=6) rfl ?_
    try simp only [qS]
    refine qV (i:=10) rfl ?_
    try simp only[qS]
    refine Fst.iu (late:=λk=>([]:List Nat).contains k) (S:=λV:World=>V.cell? ⟨B,0,none⟩ = some (.slice F H a)/\V.cell? ⟨X,5,none⟩=some (.slice x.rp x.rn x.rc)) _ _ _ _ ?_;refine Fst.take (ls:=([]:List Nat)) (i:=4) (v:=?v22) rfl (by kernel_rfl) (by kernel_rfl) (by kernel_rfl) (by kernel_rfl) (by kernel_rfl) (λ_ _ _ h=>h) (Or.inl ⟨by rfl,?h22⟩) (g.out _ (cX (MJ _ _))) ?r22
    case h22=>(rintro V ⟨s0,s5⟩;go_simp;try with_reducible rfl)
    try simp only [qS]
    refine Fst.take (ls:=([]:List Nat)) (i:=7) (v:=?v23) rfl (by kernel_rfl) (by kernel_rfl) (by kernel_rfl) (by kernel_rfl) (by kernel_rfl) (λ_ _ _ h=>h) (Or.inl ⟨by rfl,?h23⟩) (g.out _ (cX (MJ _ _))) ?r23
    case h23=>(rintro V ⟨s0,s5⟩;go_simp;try with_reducible rfl)
    try simp only[qS]
    refine Fst.one (i:=5) (by kernel_rfl) rfl (λK l=>?_)
    go_simp
    refine (aO.out _ (cX (MJ _ _))).mono ?_;rintro e v1 ⟨rfl,f⟩
    (try go_wp2_with fail)
    first | (refine l _ _ (g.out _ (f)) ?_;clear l K) | skip
    try simp only[qS]
    refine Fst.one (i:=8) (by kernel_rfl) rfl (λK l=>?_)
    go_simp
    refine (aP.out _ (f)).mono ?_;rintro e v2 ⟨rfl,aF⟩
    (try go_wp2_with fail)
    first | (refine l _ _ (g.out _ (aF)) ?_;clear l K) | skip
    try simp only[qS]
    refine Fst.take (ls:=([]:List Nat)) (i:=9) (v:=?v24) rfl (by kernel_rfl) (by kernel_rfl) (by kernel_rfl) (by kernel_rfl) (by kernel_rfl) (λ_ _ _ h=>h) (Or.inl ⟨by rfl,?h24⟩) (g.out _ (aF)) ?r24
    case h24=>(rintro V ⟨s0,s5⟩;go_simp;try with_reducible rfl)
    try simp only [qS]
    refine Fst.one (i:=11) (by kernel_rfl) rfl (λK l=>?_)
    go_simp
    refine (aQ.out _ (aF)).mono ?_;rintro e v3 ⟨rfl,ar⟩
    (try go_wp2_with fail)
    first | (refine l _ _ (g.out _ (ar)) ?_;clear l K) | skip
    try simp only [qS]
    refine Fst.take (ls:=([]:List Nat)) (i:=12) (v:=?v25) rfl (by kernel_rfl) (by kernel_rfl) (by kernel_rfl) (by kernel_rfl) (by kernel_rfl) (λ_ _ _ h=>h) (Or.inl ⟨by rfl,?h25⟩) (g.out _ (ar)) ?r25
    case h25=>(rintro V ⟨s0,s5⟩;go_simp;try with_reducible rfl)
    try simp only[qS]
    refine Fst.take (ls:=([]:List Nat)) (i:=13) (v:=?v26) rfl (by kernel_rfl) (by kernel_rfl) (by kernel_rfl) (by kernel_rfl) (by kernel_rfl) (λ_ _ _ h=>h) (Or.inl ⟨by rfl,?h26⟩) (g.out _ (ar)) ?r26
    case h26=>(rintro V ⟨s0,s5⟩;go_simp;try with_reducible rfl)
    try simp only [qS]
    refine Fst.one (i:=14) (by kernel_rfl) rfl (λK l=>?_)
    go_simp
    (try go_wp2_with fail)
    first | (refine l _ _ (g.out _ (ar)) ?_;clear l K) | skip
    try simp only[qS]
    refine Fst.done (by kernel_rfl) ?_;have O:Hid (Bw w5 v3):=ar;clear f aF ar;revert O;revert v3;exact cz.out
   intro w6 O;have aB:=qJ ak O;have aC:=hH<|(O.out.block _ bs).trans ag.out;have aD:=qK O al;have az:=hH<|(O.out.block _ bq).trans aa.out;have aR:=hH<|aL.out.up O.out;have bu:=hH<|aM.out.up O.out;have bv:=hH<|aN.out.up O.out;have ch:X<w6.1.size:=(qL az.out);have ci:=(qL aD.out);have cj:=(qL aC.out);clear g aO aP aQ ak ag al aa aL aM aN bq br bs O aq cg
   by_cases hrm:8192<wrap64 (wrap64 (s1 - s2)+s3)
   ·have o:Hid (iM 407 = R):=by
     have:=t.out;unfold Nf.GM at this;rw[HF.out,I.out,n.out,ME J.out,ME hd5,Z.out,ME am.out,ME hd0,Q.out,MC hrm]at this;exact this
    have s:Hid (pl L = T):=by
     have:=C.out;unfold Nf.yx at this;rw[HF.out,I.out,n.out,ME J.out,ME hd5,Z.out,ME am.out,ME hd0,Q.out,MC hrm]at this;exact this
    have bw:8192 < IntKind.i64.wrap (IntKind.i64.wrap (s1-s2) + s3):=by rw[IntWalk.i64_left,IntWalk.i64_left];exact hrm
    clear t C Q hrm;go_wp2_with fail;refine (eV 407 _).mono ?_;rintro e w7 ⟨rfl,j⟩;have ad:=hH<|aB.out.trans (j.mono aB.out.size);have D:=qK j aD;have af:=qK j aC;obtain⟨g0,g1,g2,g3,g4,g5,g6,g7,g8,g9⟩:=ev D.out;have gg:=dw D.out;clear j;go_wp2
    (try simp only[Exit.inBlock,Exit.then])
    refine MK (v:=R) ?_ rfl ⟨.slice F H a,rfl,?_,.inl ⟨rfl,s.out.symm⟩,?_⟩
    ·rw [cN rfl,<-o.out]
     go_simp
    ·repeat (with_reducible refine (MM _ _ _ _ (show B≠w.1.size from P)).trans ?_)
     exact af.out
    ·repeat (with_reducible refine eN ?_ (.inl (MI w.1.size)) _)
     exact cP ad.out _
   obtain⟨N,hN⟩:=qE (Nf.Im x.i c);obtain ⟨en,bh⟩:=qE (Bs.Bl.fA (Nf.xC x.i c));have bx:=hH<|show max x.i.size en = N by
    rw [<-hN,<-bh];rfl
   have ck:=hH bh;have o:Hid (nr (dM (pl L) c.no c.gen (Nf.pH x.i c dn)) 0 0 (Nf.pH x.i c dn).kind (Nf.pH x.i c dn).cH (Nf.pH x.i c dn).size (Nf.pH x.i c dn).cF ⟨#[]⟩ (.slice none 0 0) 0 = R):=by
    have:=t.out;unfold Nf.GM at this;rw[HF.out,I.out,n.out,ME J.out,ME hd5,Z.out,ME am.out,ME hd0,Q.out,ME hrm]at this;exact this
   have s:Hid (Nf.IA (pl L) c.no c.gen (Nf.pH x.i c dn) = T):=by
    have:=C.out;unfold Nf.yx at this;rw[HF.out,I.out,n.out,ME J.out,ME hd5,Z.out,ME am.out,ME hd0,Q.out,ME hrm]at this;exact this
   have aS:At.kv x.i.kind x.i.cH x.i.size x.i.cF N dn = VA (Nf.pH x.i c dn).kind (Nf.pH x.i c dn).cH (Nf.pH x.i c dn).size (Nf.pH x.i c dn).cF:=by
    rw[<-hN];unfold Nf.pH At.kv Nf.gE;split <;> rfl
   have aT:(Nf.pH x.i c dn).gen = x.i.gen/\(Nf.pH x.i c dn).next=x.i.next/\(Nf.pH x.i c dn).runs = Nf.xC x.i c/\(Nf.pH x.i c dn).cE=x.i.cE:=by
    unfold Nf.pH;split <;> exact ⟨rfl,rfl,rfl,rfl⟩
   obtain⟨z,hz⟩:=qE (Nf.pH x.i c dn);rw [hz]at o s aS aT;have aU:Hid (z.gen=x.i.gen/\z.next=x.i.next/\z.runs=Nf.xC x.i c/\z.cE=x.i.cE):=aT;obtain⟨ge,bX⟩:=qE (At.eK x.i.kind x.i.cH x.i.size x.i.cF N dn);have bz:Hid (∀ V:World,Calls Tryz.prog 160 #[VA x.i.kind x.i.cH x.i.size x.i.cF,.int .i64 N,.int .i64 dn] V λe w'=>e = .returned (.tuple #[VA z.kind z.cH z.size z.cF,.int .i64 ge])/\Bw V w'):=λV=>by
    have:=uV x.i.kind x.i.cH x.i.size x.i.cF N dn V;rw[aS,bX] at this;exact this
   have bw:¬ 8192<IntKind.i64.wrap (IntKind.i64.wrap (s1 - s2)+s3):=by rw [IntWalk.i64_left,IntWalk.i64_left];exact hrm
   clear hN bh aS aT hz bX t C Q hrm;have k5:=cJ az.out 5;have kf:=dw az.out;simp at k5;go_wp2_with fail;obtain⟨w8,U⟩:=qF (w6.setCell ⟨X,5,none⟩ (.slice p m q));rw [<-U];have ah:=hH<|show w8.heap[X]? = some (B8 x.i.gen x.i.kind x.i.cH x.i.size x.i.cF (.slice p m q) (.slice x.ep x.en x.ec) x.i.next) by
    rw [U];have h4:=ij az.out 5 (.slice p m q);simpa using h4
   have aE:Hid (w8.1[B]?=some (gj (.slice F H a) vo vs dn cl c)):=by show _=_;rw[U];exact (MM _ _ _ _ (show B≠X by omega)).trans aC.out
   have aV:=hH<|show w8.heap[w.heap.size]? = some fJ by rw [U];exact (MM _ _ _ _ (show w.1.size≠X by omega)).trans aD.out
   have aW:=hH<|show Bw w w8 by rw [U];exact MP aB.out (by show w.heap.size<=X;omega) _
   have bA:=hH<|show cD (λb=>b < w.heap.size) w8 (.slice F H a) L by rw [U];exact df (A:=X) (by show ¬ X<w.heap.size;omega) [.slice p m q] 5 _ bu.out
   have aX:Hid (At ER (λb=>X<b) w8 (.slice p m q) (Nf.xC x.i c)):=by show At _ _ _ _ _;rw[U];exact bv.out.setCell (by show ¬ X<X;omega) _
   have aY:Hid (At EE (λb=>b<X) w8 (.slice x.ep x.en x.ec) x.i.cE/\x.i.cE.length<=3518437208883):=by show _/\_;rw[U];exact ⟨aR.out.2.1.setCell (by show ¬ X<X;omega) _,aR.out.2.2.2.2⟩
   have bB:X < w8.1.size:=(qL ah.out);have bC:=(qL aV.out);have bD:=(qL aE.out);have aZ:Hid (dQ (Nf.xC x.i c)/\(Nf.xC x.i c).length<=5864062014805):=Ey _ _ _;have bE:Hid (∀ V,Bw w8 V->Calls Tryz.prog 146 #[.slice p m q] V λe w'=>e = .returned (.int .i64 en)/\Bw w8 w'):=λV h=>by
    refine (Bs.x8 _ (Nf.xC x.i c) V (aX.out.up h).fields aZ.out.1).mono ?_;rintro e w' ⟨M,h2⟩;rw [ck.out]at M;exact ⟨M,h.trans (h2.mono h.size)⟩
   have g:Hid (∀ V:World,Bw w8 V->V.cell? ⟨X,1,none⟩=some (.int .i64 x.i.kind)/\V.cell? ⟨X,2,none⟩ = some (.int .i64 x.i.cH)/\V.cell? ⟨X,3,none⟩=some (.int .i64 x.i.size)/\V.cell? ⟨X,4,none⟩ = some (.int .i64 x.i.cF)/\V.cell? ⟨B,3,none⟩=some (.int .i64 dn)):=λV h=>by
    obtain ⟨-,-,-,t3,-,-,-,-,-,-,-,-,-,-,-⟩:=gh aE.out;have k1:=cJ ah.out 1;have k2:=cJ ah.out 2;have k3:=cJ ah.out 3;have k4:=cJ ah.out 4;simp at k1 k2 k3 k4;exact ⟨cC k1 h,cC k2 h,cC k3 h,cC k4 h,cC t3 h⟩
   clear U k5 kf az aC aD aB bu bv aR ch ci cj;refine NX (by kernel_rfl) ?_;change wpAny _ _ _ _ _ _ _ (World.drew _);refine qV (i:=0) rfl ?_
   try simp only [qS]
   refine qV (i:=2) rfl ?_
   try simp only[qS]
   refine qV (i:=3) rfl ?_
   try simp only [qS]
   refine qV (i:=5) rfl ?_
   try simp only[qS]
   refine qV (i:=8) rfl ?_
   try simp only [qS]
   refine qV (i:=9) rfl ?_
   try simp only[qS]
   refine qV (i:=10) rfl ?_
   try simp only [qS]
   refine qV (i:=11) rfl ?_
   try simp only[qS]
   have HS:(λV:World=>V.cell? ⟨X,1,none⟩=some (.int .i64 x.i.kind)/\V.cell? ⟨X,2,none⟩=some (.int .i64 x.i.cH)/\V.cell? ⟨X,3,none⟩=some (.int .i64 x.i.size)/\V.cell? ⟨X,4,none⟩=some (.int .i64 x.i.cF)/\V.cell? ⟨B,3,none⟩=some (.int .i64 dn)) w8.drew:=g.out _ (cX (MJ _ _));refine Fst.iu (late:=λk=>[17,18].contains k) (S:=λV:World=>V.cell? ⟨X,1,none⟩=some (.int .i64 x.i.kind)/\V.cell? ⟨X,2,none⟩ = some (.int .i64 x.i.cH)/\V.cell? ⟨X,3,none⟩=some (.int .i64 x.i.size)/\V.cell? ⟨X,4,none⟩ = some (.int .i64 x.i.cF)/\V.cell? ⟨B,3,none⟩=some (.int .i64 dn)) _ _ _ _ ?_;refine Fst.tk (ls:=[17,18]) (i:=1) (v:=?v35) rfl (Or.inl ⟨by rfl,?h35⟩) HS ?r35
   case h35=>(rintro V ⟨s1,s2,s3,s4,s0⟩;go_simp;try with_reducible rfl)
   try simp only [qS]
   refine Fst.tk (ls:=[17,18]) (i:=4) (v:=?v36) rfl (Or.inl ⟨by rfl,?h36⟩) HS ?r36
   case h36=>(rintro V ⟨s1,s2,s3,s4,s0⟩;go_simp;try with_reducible rfl)
   try simp only[qS]
   refine Fst.tk (ls:=[17,18]) (i:=12) (v:=?v37) rfl (Or.inl ⟨by rfl,?h37⟩) HS ?r37
   case h37=>(rintro V ⟨s1,s2,s3,s4,s0⟩;go_simp;try with_reducible rfl)
   try simp only [qS]
   refine Fst.one (late:=λk=>[17,18].contains k) (i:=6) (by kernel_rfl) rfl (λK l=>?_)
   go_simp
   refine (bE.out _ (cX (MJ _ _))).mono ?_;rintro e w9 ⟨rfl,aG⟩
   (try go_wp2_with fail)
   first | (refine l _ _ (g.out _ (aG)) ?_;clear l K) | skip
   try simp only [qS]
   refine Fst.one (late:=λk=>[17,18].contains k) (i:=7) (by kernel_rfl) rfl (λK l=>?_)
   go_simp
   (try rw [bx.out])
   (try go_wp2_with fail)
   first | (refine l _ _ (g.out _ (aG)) ?_;clear l K) | skip
   try simp only [qS]
   (try rw[bx.out])
   have E:Hid (Bw w8 w9):=aG;clear aG HS;have ba:=qJ aW E;have bb:=hH<|(E.out.block _ bD).trans aE.out;have an:=qK E aV;have bc:=hH<|(E.out.block _ bB).trans ah.out;have bF:=hH<|bA.out.up E.out;have bG:=hH<|aX.out.up E.out;have aA:Hid (At EE (λb=>b<X) w9 (.slice x.ep x.en x.ec) x.i.cE/\x.i.cE.length<=3518437208883):=⟨aY.out.1.up E.out,aY.out.2⟩;have cm:X<w9.1.size:=(qL bc.out);have cn:=(qL an.out);have co:=(qL bb.out);refine Fst.one (late:=λk=>[17,18].contains k) (i:=13) (by kernel_rfl) rfl (λK l=>?_)
   go_simp
   refine (bz.out _).mono ?_;rintro e v1 ⟨rfl,f⟩;have bH:=qJ ba f;have aw:=qK f bb;have bI:=qK f an;have ai:=qK f bc;have bJ:Hid (cD (λb=>b<w.1.size) v1 (.slice F H a) L):=bF.out.up f;have bK:=hH<|bG.out.up f;have bd:Hid (At EE (λb=>b < X) v1 (.slice x.ep x.en x.ec) x.i.cE/\x.i.cE.length<=3518437208883):=⟨aA.out.1.up f,aA.out.2⟩;have k1:=cJ ai.out 1;have k2:=cJ ai.out 2;have k3:=cJ ai.out 3;have k4:=cJ ai.out 4;have kf:=dw ai.out;simp at k1 k2 k3 k4;clear bE ah aE aV aW bA aX aY bB bC bD ba bb an bc bF bG aA cm cn co bz
   (try go_wp2_with fail)
   first | (refine l _ _ (g.out _ (E.out.trans (f.mono E.out.size))) ?_;clear l K) | skip
   try simp only[qS]
   have HS:(λV:World=>V.cell? ⟨X,1,none⟩=some (.int .i64 x.i.kind)/\V.cell? ⟨X,2,none⟩=some (.int .i64 x.i.cH)/\V.cell? ⟨X,3,none⟩=some (.int .i64 x.i.size)/\V.cell? ⟨X,4,none⟩=some (.int .i64 x.i.cF)/\V.cell? ⟨B,3,none⟩=some (.int .i64 dn)) v1:=g.out _ (E.out.trans (f.mono E.out.size));refine Fst.tk (ls:=[17,18]) (i:=14) (v:=?v38) rfl (Or.inl ⟨by rfl,?h38⟩) HS ?r38
   case h38=>(rintro V ⟨s1,s2,s3,s4,s0⟩;go_simp;try with_reducible rfl)
   try simp only[qS]
   refine Fst.tk (ls:=[17,18]) (i:=15) (v:=?v39) rfl (Or.inl ⟨by rfl,?h39⟩) HS ?r39
   case h39=>(rintro V ⟨s1,s2,s3,s4,s0⟩;go_simp;try with_reducible rfl)
   try simp only [qS]
   refine Fst.LK (ls:=[17,18]) (i:=16) (v:=?v40) rfl (by kernel_rfl) (by kernel_rfl) (by kernel_rfl) (by kernel_rfl) (λ_ _ _ h=>h) (Or.inl ⟨by rfl,?h40⟩) HS ?r40
   case h40=>(intro V _;go_simp;try with_reducible rfl)
   try simp only[qS]
   clear HS f g;refine Fst.rest (by kernel_rfl) ?_;refine qV (i:=17) rfl ?_
   try simp only[qS]
   refine Nc (rs:=[18]) (by kernel_rfl) (by simp) ?_;refine M7 rfl (λK l=>?_) M9
   go_simp
   (try go_wp2_with fail)
   first | (refine l _ _ ?_;clear l K) | skip
   try simp only [qS]
   refine N1 (by kernel_rfl) ?_ _;obtain ⟨v2,aH⟩:=qF ((((v1.setCell ⟨X,1,none⟩ (.int .i64 z.kind)).setCell ⟨X,2,none⟩ (.int .i64 z.cH)).setCell ⟨X,3,none⟩ (.int .i64 z.size)).setCell ⟨X,4,none⟩ (.int .i64 z.cF));rw[<-aH];have ap:v2=v1.setCells X 1 [.int .i64 z.kind,.int .i64 z.cH,.int .i64 z.size,.int .i64 z.cF]:=aH;obtain⟨y,hy⟩:∃ y:Rw,y = ⟨z,p,m,q,x.ep,x.en,x.ec⟩:=⟨_,rfl⟩;have cp:=hH<|show y.i = z by rw [hy]
   have ab:Hid (v2.1[X]?=some (B8 x.i.gen z.kind z.cH z.size z.cF (.slice p m q) (.slice x.ep x.en x.ec) x.i.next)):=by
    show v2.1[X]?=_;rw [aH];have h4:=ij (ij (ij (ij ai.out 1 (.int .i64 z.kind)) 2 (.int .i64 z.cH)) 3 (.int .i64 z.size)) 4 (.int .i64 z.cF);simpa using h4
   have cq:Hid (v2.1[B]?=some (gj (.slice F H a) vo vs dn cl c)):=by show _=_;rw[ap];exact (dq _ _ _ (by omega)).trans aw.out
   have bL:Hid (v2.1[w.1.size]?=some fJ):=by show _=_;rw[ap];exact (dq _ _ _ (by omega)).trans bI.out
   have cr:Hid (Bw w v2):=by show Below _ _ _;rw[ap];exact da (by omega) _ _ _ bH.out
   have cs:Hid (cD (λb=>b<w.1.size) v2 (.slice F H a) L):=by show cD _ _ _ _;rw[ap];exact df (by show ¬ X < w.1.size;omega) _ _ _ bJ.out
   have ct:Hid (Good (λb=>b≠X) v2 y):=by
    show Good _ _ _;rw [hy,ap];obtain⟨q1,q2,q3,q4⟩:=aU.out;refine ⟨?_,?_,?_⟩
    ·show At ER _ _ (.slice p m q) z.runs;rw[q3];exact dB (S:=λb=>b≠X) (λh=>h rfl) _ _ _ (bK.out.imp (λb hb _=>by show b≠X;omega))
    ·show At EE _ _ (.slice x.ep x.en x.ec) z.cE;rw[q4];exact dB (S:=λb=>b≠X) (λh=>h rfl) _ _ _ (bd.out.1.imp (λb hb _=>by show b≠X;omega))
    ·show LB z;unfold LB;rw [q3,q4];exact⟨aZ.out.1,aZ.out.2,bd.out.2⟩
   have cu:Hid (VI y=.agg #[.int .i64 x.i.gen,.int .i64 z.kind,.int .i64 z.cH,.int .i64 z.size,.int .i64 z.cF,.slice p m q,.slice x.ep x.en x.ec,.int .i64 x.i.next]):=by
    show _=_;rw[hy];show VI ⟨z,p,m,q,x.ep,x.en,x.ec⟩ = _;rw[<-aU.out.1,<-aU.out.2.1]
   have cv:=(qL bL.out);have j0:=cJ ab.out 0;have j1:=cJ ab.out 1;have j2:=cJ ab.out 2;have j3:=cJ ab.out 3;have j4:=cJ ab.out 4;have j5:=cJ ab.out 5;have j6:=cJ ab.out 6;have j7:=cJ ab.out 7;simp at j0 j1 j2 j3 j4 j5 j6 j7;clear aH ap hy k1 k2 k3 k4 kf bH aw bI ai bJ bK bd;go_wp2_with fail;rw[<-cu.out];refine (zR (.slice F H a) vo vs dn cl c L B y v2 cq.out cs.out ct.out).mono ?_;rintro e v9 ⟨u,rfl,bY,aI,bi⟩;rw[cp.out] at aI |-;rw[s.out] at aI;have an:=hH<|(bi.block _ cv qt).trans bL;obtain ⟨g0,g1,g2,g3,g4,g5,g6,g7,g8,g9⟩:=ev an.out;have gg:=dw an.out;have cw:=hH bY;have cx:Hid (Nf.vJ (v2.1.size+1) v9 (.slice F H a) u (pl L) T):=aI;have aA:=hH<|cQ (cP cr.out _) bi;obtain⟨pe,bZ⟩:=qE (dM (pl L) c.no c.gen z);rw [bZ]at o |-;clear bY aI bi bZ;go_wp2
   (try simp only[Exit.inBlock,Exit.then])
   refine MK (v:=R) ?_ rfl ⟨u,rfl,?_,?_,?_⟩
   ·rw[cN rfl,<-o.out]
    go_simp
   ·repeat (with_reducible refine (MM _ _ _ _ (show B≠w.heap.size from P)).trans ?_)
    exact cw.out
   ·rcases cx.out with ⟨M,h2⟩ | ⟨L',M,h2⟩
    ·exact .inl ⟨M,h2⟩
    ·refine .inr ⟨L',?_,h2⟩;refine cD.imp ?_ (S:=λb=>v2.1.size + 1<=b) (λb hb _=>by omega);exact df (A:=w.1.size) (S:=λb=>v2.heap.size+1<=b) (by show ¬ v2.heap.size+1<=w.heap.size;omega) (cV pe 0 0 z.kind z.cH z.size z.cF) 0 _ M
   ·repeat (with_reducible refine eN ?_ (.inl (MI w.1.size)) _)
    exact aA.out
  ·have hz:(we != 0)=true:=by simpa using hw0
   have o:Hid (iM we = R):=by
    have:=t.out;unfold Nf.GM at this;rw[HF.out,I.out,n.out,ME J.out,ME hd5,Z.out,MC hw0]at this;exact this
   have s:Hid (pl L = T):=by
    have:=C.out;unfold Nf.yx at this;rw[HF.out,I.out,n.out,ME J.out,ME hd5,Z.out,MC hw0]at this;exact this
   clear t C hw0;go_wp2_with fail;refine (eV we _).mono ?_;rintro e w7 ⟨rfl,j⟩;have ad:=hH<|ak.out.trans (j.mono ak.out.size);have D:=qK j al;have af:=qK j ag;obtain⟨g0,g1,g2,g3,g4,g5,g6,g7,g8,g9⟩:=ev D.out;have gg:=dw D.out;clear j;go_wp2
   (try simp only[Exit.inBlock,Exit.then])
   refine MK (v:=R) ?_ rfl ⟨.slice F H a,rfl,?_,.inl ⟨rfl,s.out.symm⟩,?_⟩
   ·rw [cN rfl,<-o.out]
    go_simp
   ·repeat (with_reducible refine (MM _ _ _ _ (show B≠w.1.size from P)).trans ?_)
    exact af.out
   ·repeat (with_reducible refine eN ?_ (.inl (MI w.1.size)) _)
    exact cP ad.out _
 ·have hz:(fe != 0)=true:=by simpa using h0
  have o:Hid (iM fe = R):=by
   have:=t.out;unfold Nf.GM at this;rw[HF.out,MC h0] at this;exact this
  have s:Hid (pl L=T):=by
   have:=C.out;unfold Nf.yx at this;rw [HF.out,MC h0]at this;exact this
  clear t C bk h0 HG HF;go_wp2_with fail;rw [<-hY];clear hY;refine (eV fe _).mono ?_;rintro e w7 ⟨rfl,j⟩;have ad:=qJ ac j;have D:=qK j HZ;have af:=qK j aj;obtain ⟨g0,g1,g2,g3,g4,g5,g6,g7,g8,g9⟩:=ev D.out;have gg:=dw D.out;clear j;go_wp2
  refine MK (v:=R) ?_ rfl ⟨.slice F H a,rfl,?_,.inl ⟨rfl,s.out.symm⟩,?_⟩
  ·rw[cN rfl,<-o.out]
   go_simp
  ·repeat (with_reducible refine (MM _ _ _ _ (show B≠w.heap.size from P)).trans ?_)
   exact af.out
  ·repeat (with_reducible refine eN ?_ (.inl (MI w.heap.size)) _)
   exact cP ad.out _
end Go.Proofs.YtiifhfmekbhlnaaGreat
namespace Go.Proofs.YtiifhfmekbhlnaaGreat
section
open It
namespace Sp
theorem FO {L:List cL}{a b st:Int}{s:ByteArray}(h:vR (dW cZ) L a b s st=0):names (yQ (dW cZ) L a b s st) (xJ (dW cZ) L a b s st).1 (xJ (dW cZ) L a b s st).2=true/\(xJ (dW cZ) L a b s st).1≠0:=by
 unfold yQ xJ;rw[MC h,MC h];unfold vR at h
 by_cases hl:fT (dW cZ) L st a b s=0
 ·rw[MC hl]at h
  obtain⟨z,A,j,e,f,l,B,m,n,o,p,q,C,D,r,c,t,g,i,d,u,v,k,w,E,x,y⟩:=jT eQ hl;rw[r,k];refine⟨dY.2 ⟨f,linked l (-1) st,?_,c,i,d⟩,by rw[c];omega⟩;rw[c,show ((f:Int)).toNat=f by omega,Ny];unfold gd;rw[OC];exact (MN.1 g).1
 ·rw[ME hl]at h
  exact absurd h hl
end Sp
end
end Go.Proofs.YtiifhfmekbhlnaaGreat
namespace Go.Proofs.YtiifhfmekbhlnaaGreat.Ym
open ChangeShapes WideShapes ChangeAt RowKit Deep
theorem wy (w)(em)(x):(Instr.checkKey em 10000 3 (.int .i64 x)).run Tryz.prog w=.ok () w:=by
 rw[show (10000:Nat)=9999+1 from rfl];unfold Instr.checkKey;simp only[Sem.run_bind,run_underlying Tryz.underlying3,Result.andThen,Sem.run_pure]
structure IM (w:World) (r:Nat) (M:List (Int × Value)):Prop where
 out:∃ es clock,w.1[r]?=some (.map es clock)/\es.toList.map (λe=>(e.key,e.val))=M.map (λp=>(.int .i64 p.1,p.2))/\(es.toList.map (·.born)).Nodup/\∀ b∈es.toList.map (·.born),b<clock
def gI:List (Int × Value)->Int->Nat->Option (Nat × Value)
 | [],_,_=>none
 | p::M,h,i=>if h==p.1 then some (i,p.2) else gI M h (i+1)
def nq (M:List (Int × Value)) (h:Int) (v:Value):List (Int × Value):=match gI M h 0 with | some p=>M.set p.1 (h,v) | none=>M++[(h,v)]
theorem uK:∀ (M:List (Int × Value)) (h:Int) (i:Nat) (j:Nat) (v:Value),gI M h i=some (j,v)->i<=j/\M[j-i]?=some (h,v)
 | [],_,_,_,_,e=>by cases e
 | p::M,h,i,j,v,e => by
  unfold gI at e
  by_cases hp:(h==p.1)=true
  ·rw[MC hp]at e
   cases e
   refine⟨qn,?_⟩;rw[Nat.sub_self,List.getElem?_cons_zero];have:h=p.1:=by simpa using hp
   rw[this]
  ·rw[ME hp]at e;obtain⟨b,a⟩:=uK M h (i+1) j v e;refine⟨qo,?_⟩;rw[show j-i=(j-(i+1))+1 by omega,List.getElem?_cons_succ];exact a
theorem CK (w:World)(h):∀ (es:List MapEntry) (M:List (Int × Value)) (i:Nat),es.map (λe=>(e.key,e.val))=M.map (λp=>(.int .i64 p.1,p.2))->Instr.findNow (.int .i64) (.int .i64 h) es i=some (gI M h i)
 | [],[],i,_=>rfl
 | [],q::M,i,he=>by simp at he
 | e::es,[],i,he=>by simp at he
 | e::es,q::M,i,he => by
  simp only[List.map_cons,List.cons.injEq,Prod.mk.injEq]at he;obtain⟨⟨hk,hv⟩,hr⟩:=he;unfold Instr.findNow gI;rw[hk,hv];have hs:Instr.sameNow (.int .i64) (.int .i64 h) (.int .i64 q.1)=some (h==q.1):=by simp[Instr.sameNow]
  rw[hs]
  by_cases hp:(h==q.1)=true
  ·rw[hp];rfl
  ·rw[Bool.not_eq_true]at hp;rw[hp];simpa using CK w h es M (i+1) hr
theorem sJ (w)(h)(es)(M:List (Int × Value)) (he:es.map (λe=>(e.key,e.val))=M.map (λp=>(.int .i64 p.1,p.2))):(Instr.findKey 3 (.int .i64 h) es).run Tryz.prog w=.ok (gI M h 0) w:=by
 unfold Instr.findKey;simp only[Sem.run_bind,run_underlying Tryz.underlying3,Result.andThen];rw[CK w h es M 0 he];rfl
section
variable {mt et:TypeId} (hmt:Tryz.prog.underlying mt=some (.map 3 et))
include hmt
theorem yJ {w:World}{r:Nat}{M:List (Int × Value)}(hm:IM w r M){h:Int}{j:Nat}{v:Value}(hf:gI M h 0=some (j,v))(ok):(Instr.lookup mt (.map (some r)) (.int .i64 h) ok).run Tryz.prog w=.ok (if ok then .tuple #[v,.bool true] else v) w:=by
 obtain⟨b,a,c,d,_,_⟩:=hm.out;unfold Instr.lookup;simp only[Sem.run_bind,run_underlying hmt,Result.andThen,run_getObj_map w r b a c,Sem.run_pure,wy,sJ w h b.toList M d,hf]
omit hmt
theorem Dj (w)(h):(Instr.keyThatStays (.int .i64 h) (.int .i64 h)).run Tryz.prog w=.ok (.int .i64 h) w:=by
 unfold Instr.keyThatStays;rw[MC (by simp[Instr.sameBits])];rfl
theorem iW {w:World}{r:Nat}{es:Array MapEntry}{clock:Nat}(hr:w.1[r]?=some (.map es clock))(o):(setObj r o).run Tryz.prog w=.ok () (w.putObj r o):=by
 simp[setObj,Sem.run,hr,World.putObj]
theorem ie {β:Type}{es:Array MapEntry}{i:Nat}{e:MapEntry}(he:es[i]?=some e)(f:MapEntry->MapEntry)(g:MapEntry->β):(es.modify i f).toList.map g=(es.toList.map g).set i (g (f e)):=by
 refine OL λk=>?_
 have a:=(qL he);rw[Nh,Nw,NN,Nz]
 by_cases hk:i=k
 ·subst hk;rw[MC rfl,MC rfl,he];simp[a]
 ·rw[ME hk,ME hk,Nh,Nw]
theorem od {β:Type}{l:List β}{i:Nat}{x:β}(h:l[i]?=some x):l.set i x=l:=by
 refine OL λk=>?_
 rw[Nz];split
 ·rename_i e
  subst e;rw[h];simp[(qM h)]
 ·rfl
theorem JY {es:Array MapEntry}{M:List (Int × Value)}(he:es.toList.map (λe=>(e.key,e.val))=M.map (λp=>(.int .i64 p.1,p.2))){i:Nat}{h:Int}{v:Value}(hi:M[i]?=some (h,v)):∃ e,es[i]?=some e/\e.key=.int .i64 h/\e.val=v:=by
 have a:=Ox (λl=>l[i]?) he;simp only[List.getElem?_map,Array.getElem?_toList,hi,Option.map_some]at a
 cases hx:es[i]? with
 | none=>rw[hx]at a;cases a
 | some e =>
  rw[hx]at a;simp only[Option.map_some,Option.some.injEq,Prod.mk.injEq]at a;exact⟨e,rfl,a.1,a.2⟩
include hmt
theorem IS {w:World}{r:Nat}{M:List (Int × Value)}(hm:IM w r M)(h)(v) :
  ∃ w',(Instr.mapUpdate mt (.map (some r)) (.int .i64 h) v).run Tryz.prog w=.ok () w'/\IM w' r (nq M h v)/\w.grownBy w' (some r):=by
 obtain⟨k,f,l,m,p,n⟩:=hm.out;have g:=(qL l);unfold Instr.mapUpdate;simp only[Sem.run_bind,run_underlying hmt,Result.andThen,run_getObj_map w r k f l,wy,sJ w h k.toList M m];unfold nq
 cases hf:gI M h 0 with
 | none =>
  simp only[iW l];refine⟨_,rfl,⟨_,_,World.putObj_heap_same g,?_,?_,?_⟩,grownBy_putObj' _ _ _⟩
  ·simp only[Array.toList_push,List.map_append,List.map_cons,List.map_nil,m]
  ·simp only[Array.toList_push,List.map_append,List.map_cons,List.map_nil];rw[List.nodup_append];refine⟨p,qs,λa x b c=>?_⟩;simp at c;have:=n a x;omega
  ·simp only[Array.toList_push,List.map_append,List.map_cons,List.map_nil];intro b c;rcases Na.1 c with c | c
   ·have:=n b c;omega
   ·simp at c;omega
 | some q =>
  obtain⟨i,t⟩:=q;obtain⟨_,s⟩:=uK M h 0 i t hf;rw[Nat.sub_zero]at s;obtain⟨e,d,o,u⟩:=JY m s;simp only[d,Option.map_some,Option.getD_some,o,Sem.run_bind,Dj,Result.andThen,iW l];have j:(k.modify i λe=>{ e with key:=.int .i64 h,val:=v }).toList.map (·.born)=k.toList.map (·.born):=by
   rw[ie d];exact od (by rw[Nh,Nw,d];rfl)
  refine⟨_,rfl,⟨_,_,World.putObj_heap_same g,?_,by rw[j];exact p,by rw[j];exact n⟩,grownBy_putObj' _ _ _⟩;rw[ie d,m,Pd]
omit hmt
include hmt
omit hmt
theorem IM.kept {w w':World}{r:Nat}{M:List (Int × Value)}(h:IM w r M)(hk:w'.1[r]?=w.1[r]?):IM w' r M:=by
 obtain⟨b,a,c,d⟩:=h.out;exact⟨b,a,hk.trans c,d⟩
theorem IM.lt {w:World}{r:Nat}{M:List (Int × Value)}(h:IM w r M):r<w.1.size:=by
 obtain⟨c,a,b,_⟩:=h.out;exact (qL b)
theorem IM.new (w:World):IM (w.alloc (.map #[] 0)) w.heap.size []:=⟨#[],0,World.alloc_heap_new w _,rfl,qs,λb a=>by simp at a⟩
include hmt
omit hmt
end
section
variable {mt et:TypeId} (hmt:Tryz.prog.underlying mt=some (.map 3 et))
variable {ops:Array Oper} {rest:List Oper} {o:Oper} {a:Act} {Q:Exit->Act->World->Prop}
include hmt
omit hmt
end
end Go.Proofs.YtiifhfmekbhlnaaGreat.Ym
namespace Go.Proofs.YtiifhfmekbhlnaaGreat
section
open ChangeShapes WideShapes ChangeAt RowKit Deep It
abbrev wT (f B:Nat):Value:=.func (.func f) #[.pointer (some ⟨B,0,none⟩)] #[]
section
variable {mt et:TypeId} (hmt:Tryz.prog.underlying mt=some (.map 3 et))
variable {ops:Array Oper} {rest:List Oper} {o:Oper} {a:Act} {Q:Exit->Act->World->Prop}
include hmt
theorem AX (w)(hg:o.guard=none)(m x v:Operand)(hop:o.op=Op.insert mt m x v)(r)(M)(h)(u)(hm:a.eval m=.map (some r))(hx:a.eval x=.int .i64 h)(hv:a.eval v=u)(hM:Ym.IM w r M)(hK:∀ w',Ym.IM w' r (Ym.nq M h u)->w.grownBy w' (some r)->wpList Tryz.prog ops Q rest (a.put o.dst undef) w'):wpList Tryz.prog ops Q (o::rest) a w:=by
 refine OF hg λg c=>?_
 obtain⟨w',b,d,f⟩:=Ym.IS hmt hM h u;unfold Oper.wp;simp[execOp,hop,hm,hx,hv,b,Result.andThen];exact c _ _ (hK w' d f)
end
theorem Nf.JE (v1 v2 v3 v4 v5 v6 v7 v8 v9 v10 v11 v12 v13 v14):(Ym.nq (Ym.nq (Ym.nq (Ym.nq (Ym.nq (Ym.nq (Ym.nq (Ym.nq (Ym.nq (Ym.nq (Ym.nq (Ym.nq (Ym.nq (Ym.nq [] 1 v1) 2 v2) 3 v3) 4 v4) 5 v5) 6 v6) 7 v7) 8 v8) 9 v9) 10 v10) 11 v11) 12 v12) 13 v13) 14 v14)=[(1,v1),(2,v2),(3,v3),(4,v4),(5,v5),(6,v6),(7,v7),(8,v8),(9,v9),(10,v10),(11,v11),(12,v12),(13,v13),(14,v14)]:=by
 simp[Ym.nq,Ym.gI]
def Nf.np (B:Nat):List (Int × Value):=[(1,wT 128 B),(2,wT 129 B),(3,wT 130 B),(4,wT 131 B),(5,wT 132 B),(6,wT 133 B),(7,wT 134 B),(8,wT 135 B),(9,wT 136 B),(10,wT 137 B),(11,wT 138 B),(12,wT 139 B),(13,wT 140 B),(14,wT 141 B)]
theorem wM (B:Nat) (w:World):Calls Tryz.prog 89 #[.pointer (some ⟨B,0,none⟩)] w λe w'=>∃ r,e=.returned (.map (some r))/\w.heap.size<=r/\Ym.IM w' r (Nf.np B)/\Bw w w':=by
 have g:=@run_makeMap Tryz.prog;have c:Hid _:=Ym.IM.new w;have a:Hid (Bw w (w.alloc (.map #[] 0))):=qG _ _;obtain⟨W,d⟩:=qE (w.alloc (.map #[] 0));rw[d]at c a;go_enter Tryz.func89,Tryz.ntmps89
 go_wp2_with ((with_reducible show wpList _ _ _ (⟨none,Op.insert _ _ _ _,_,_,_,_⟩::_) _ _);(try rw[d]);(try clear d);refine AX Tryz.underlying145 _ rfl _ _ _ (by rfl) w.1.size _ _ (wT _ B) (by rfl) (by rfl) (by rfl) c ?_;intro x b f;replace c:=hH b;replace a:=hH<|a.out.grown f a.size (λk e=>by cases e;exact MI _);clear b f)
 go_ret;have b:=c.out;rw[Nf.JE]at b;exact⟨_,rfl,qn,b,a⟩
end
end Go.Proofs.YtiifhfmekbhlnaaGreat
