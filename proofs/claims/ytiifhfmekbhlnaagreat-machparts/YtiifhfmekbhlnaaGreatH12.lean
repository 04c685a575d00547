/- Part 12. -/
import Derived.Test.YtiifhfmekbhlnaaGreatH11
set_option maxHeartbeats 8000000
set_option maxRecDepth 100000
namespace Go.Proofs.YtiifhfmekbhlnaaGreat.Os
open ChangeShapes WideShapes ChangeAt RowKit Deep
theorem iU {w:World}{b j:Nat}{v:Value}(h:w.cell? ⟨b,j,none⟩=some v):b<w.1.size:=by
 unfold World.cell? at h
 by_cases hb:b<w.1.size
 ·exact hb
 ·rw[NM (by simpa using hb)]at h;simp at h
theorem cC {w w':World}{b j:Nat}{v:Value}(h:w.cell? ⟨b,j,none⟩=some v)(hb:Bw w w'):w'.cell? ⟨b,j,none⟩=some v:=dG h hb (iU h)
theorem dH {w w':World}(h:Below w.drew.1.size w.drew w'):Bw w w':=⟨h.os,h.tape,h.output,h.size,h.block⟩
theorem _root_.Go.Proofs.YtiifhfmekbhlnaaGreat.At.Lr {α:Type}{E:fY α}{S:Nat->Prop}{w:World}{ao:Option Addr}{m cap:Nat}{l:List α}(h:At E S w (.slice ao m cap) l){lo hi:Nat}(h1:lo<=hi)(h2:hi<=m):At E S w (sliced ao lo hi cap E.sz) ((l.take hi).drop lo):=by
 by_cases he:hi=lo
 ·have n:(l.take hi).drop lo=[]:=by
   apply MX
   simp;omega
  unfold sliced;rw[n,show hi-lo=0 by omega];exact .inl ⟨_,_,rfl,rfl⟩
 ·rcases h with⟨ao,c,d,rfl⟩ | ⟨b,i,s,d,p,q,t,v,x,r⟩
  ·simp only[Value.slice.injEq]at d;omega
  ·simp only[Value.slice.injEq]at d;obtain⟨rfl,rfl,rfl⟩:=d;have a:((l.take hi).drop lo).length=hi-lo:=qt
   refine .inr ⟨b,i+lo*E.sz,cap-lo,?_,p,q,qo,qo,qo,λj u k=>?_⟩
   ·rw[a];unfold sliced;rw[ME qo];simp[WideShapes.add_plain]
   ·have e:l=l.take lo++((l.take hi).drop lo++l.drop hi):=by
     have o:l.take lo=(l.take hi).take lo:=by rw[List.take_take,OB h1]
     rw[<-Nq,o,Nj,Nj]
    have f:=(qM k);have g:(E.flat (l.take lo)).length=lo*E.sz:=by rw[E.eh,M5,OB qo]
    have:=r (lo*E.sz+j) u (by
     rw[e,E.fo,E.fo,O9 qo,g,show lo*E.sz+j-lo*E.sz=j by omega,Oq f];exact k)
    rwa [<-NC]at this
theorem mi (w)(a)(m cap k)(hk:k<=cap):(Instr.slice 26 (.slice a m cap) none (some (.int .i64 (k:Int))) none).run Tryz.prog w=.ok (sliced a 0 k cap EO.sz) w:=by
 rw[run_slice_h (P:=Tryz.prog) w 26 a m cap Tryz.underlying26 .i64 (k:Int) qo qo];rfl
theorem kF (w)(a)(m cap k)(hk:k<=m):(Instr.slice 26 (.slice a m cap) (some (.int .i64 (k:Int))) none none).run Tryz.prog w=.ok (sliced a k m cap EO.sz) w:=by
 rw[run_slice_l (P:=Tryz.prog) w 26 a m cap Tryz.underlying26 .i64 (k:Int) qo qo,show ((k:Int)).toNat=k by omega];rfl
theorem _root_.Go.Proofs.YtiifhfmekbhlnaaGreat.Row.Jt {α:Type}{E:fY α}{w:World}{B:Nat}{e:TypeId}{v:Value}{ls:List α}(h:Row E w B e v ls):∃ p n c,v=.slice p n c:=by
 obtain⟨p,c,h⟩:=h.slice;exact⟨p,_,c,h⟩
theorem _root_.Go.Proofs.YtiifhfmekbhlnaaGreat.At.Lo {α:Type}{E:fY α}{S:Nat->Prop}{w:World}{a:Option Addr}{m cap:Nat}{l:List α}(h:At E S w (.slice a m cap) l)(h0:0<m):m<=cap/\cap<=maxLen:=by
 rcases h with⟨f,c,b,rfl⟩ | ⟨g,d,i,b,j,k,n,o,p,q⟩
 ·simp only[Value.slice.injEq]at b;omega
 ·simp only[Value.slice.injEq]at b;omega
abbrev vT (X:Nat) (x:dP) (w:World):Prop:=w.cell? ⟨X,0,none⟩=some (.int .i64 x.1)/\w.cell? ⟨X,1,none⟩=some (.int .i64 x.2.1)/\w.cell? ⟨X,2,none⟩=some (.int .i64 x.2.2.1)/\w.cell? ⟨X,3,none⟩=some (.int .i64 x.2.2.2)
theorem lX {X:Nat}{x:dP}{w w':World}(h:vT X x w)(hb:Bw w w'):vT X x w':=⟨cC h.1 hb,cC h.2.1 hb,cC h.2.2.1 hb,cC h.2.2.2 hb⟩
theorem ft {X:Nat}{x:dP}{w:World}(h:vT X x w)(o):vT X x (w.alloc o):=lX h (qG _ _)
theorem iD {X:Nat}{x:dP}{w:World}(h:vT X x w):vT X x w.drew:=h
theorem zb (w1:World)(v1 v3:Value)(l1 l3:List dP)(x:dP)(h1:ey EO w1 v1 l1)(h3:ey EO w1 v3 l3)(hl:l1.length+1+l3.length<=2199023255552) :
  Calls Tryz.prog 195 #[.slice (some ⟨w1.1.size+1+1,0,none⟩) 3 3] (((w1.alloc (BO x)).alloc (BO x)).alloc (.cells #[v1,.slice (some ⟨w1.1.size+1,0,none⟩) 1 1,v3] 26)).drew
   λe w'=>∃ u,e=.returned u/\Row EO w' (w1.heap.size+1+1+1) 90 u (l1++[x]++l3)/\Below (((w1.alloc (BO x)).alloc (BO x)).alloc (.cells #[v1,.slice (some ⟨w1.heap.size+1,0,none⟩) 1 1,v3] 26)).drew.heap.size (((w1.alloc (BO x)).alloc (BO x)).alloc (.cells #[v1,.slice (some ⟨w1.heap.size+1,0,none⟩) 1 1,v3] 26)).drew w':=by
 have b:=MD ((w1.alloc (BO x)).alloc (BO x)) (.cells #[v1,.slice (some ⟨w1.heap.size+1,0,none⟩) 1 1,v3] 26);have c:((w1.alloc (BO x)).alloc (BO x)).heap.size=w1.heap.size+1+1:=by simp
 rw[c]at b;have a:Bw w1 (((w1.alloc (BO x)).alloc (BO x)).alloc (.cells #[v1,.slice (some ⟨w1.1.size+1,0,none⟩) 1 1,v3] 26)):=((qG _ _).alloc (by simp) _).alloc (by simp;omega) _;have d:=(vf w1 x).up ((MJ _ _).alloc qn (.cells #[v1,.slice (some ⟨w1.1.size+1,0,none⟩) 1 1,v3] 26));have f:(((w1.alloc (BO x)).alloc (BO x)).alloc (.cells #[v1,.slice (some ⟨w1.1.size+1,0,none⟩) 1 1,v3] 26)).1.size=w1.1.size+1+1+1:=qs
 have g:=h1.up a;have h:=h3.up a;generalize ((w1.alloc (BO x)).alloc (BO x)).alloc (.cells #[v1,.slice (some ⟨w1.1.size+1,0,none⟩) 1 1,v3] 26)=w3 at *;have i:=mV (w1.1.size+1+1) v1 _ v3 l1 [x] l3 w3.drew (by show _<w3.1.size;omega) (by simp only[World.cell?];rw[show w3.drew.1[w1.1.size+1+1]?=w3.1[w1.1.size+1+1]? from rfl,b];rfl) (by simp only[World.cell?];rw[show w3.drew.1[w1.1.size+1+1]?=w3.1[w1.1.size+1+1]? from rfl,b];rfl) (by simp only[World.cell?];rw[show w3.drew.1[w1.1.size+1+1]?=w3.1[w1.1.size+1+1]? from rfl,b];rfl) g d h (by simpa using hl);refine i.mono ?_;rintro e l ⟨u,rfl,j,k⟩;refine⟨u,rfl,?_,k⟩;rw[<-f];exact j
theorem GS (v:Value)(l:List dP)(c no gen:Int)(w:World)(hv:ey EO w v l) :
  Calls Tryz.prog 171 #[v,.int .i64 c,VH no gen] w λe w'=>∃ p n q,e=.returned (.tuple #[.slice p n q,.int .i64 (Op.mu l c no gen),.int .i64 (Op.iA l c no gen)])/\At EO (λb=>w.1.size<=b) w' (.slice p n q) (Op.opened l c no gen)/\Bw w w':=by
 have R:=hv;obtain⟨G,d,rfl,hm,-⟩:=R.open;clear R;unfold maxLen at hm;obtain⟨m,M⟩:=qE l.length;rw[M]at hm hv |-;have B:Hid (l.length=m):=M;clear M;obtain⟨W,A⟩:=qF (w.alloc (BH no gen));have j:Hid _:=qB A;have t:Hid (W.heap[w.heap.size]?=some (BH no gen)):=by show W.heap[w.heap.size]?=some (BH no gen);rw[A];exact MD w (BH no gen)
 have HV:Hid (ey EO W (.slice G m d) l):=hv.up j.out;have I:Hid (ey EO w (.slice G m d) l):=hv;clear hv;rcases Op.De l c no gen with⟨i,s,N,hc,H,hl⟩ | ⟨i,s⟩ | ⟨i,s,H⟩ | ⟨i,s,N,H,hl⟩
 ·have C:Hid (Op.opened l c no gen=l.take (Op.least 0 l)++[((Op.least 0 l:Int),c,no,gen)]++l.drop (Op.least 0 l)):=MC i;have D:Hid (Op.mu l c no gen=(Op.least 0 l:Nat)):=MC i;have z:=Op.zy l;obtain⟨f,hf⟩:=qE (Op.least 0 l);have ab:Hid (Op.least 0 l=f):=hf;rw[hf]at C D z;rw[i,D.out];have J:Hid (Op.ask l c=0):=s;have S:Hid (Ho no gen):=H;rw[B.out]at z hl;have U:f<=d:=by
   by_cases h0:0<m
   ·have:=I.out.Lo h0;omega
   ·omega
  have ad:((m:Int)==16)=false:=by rw[MQ];omega
  obtain⟨q1,c1,O⟩:∃ q cc,sliced G 0 f d EO.sz=.slice q f cc:=⟨_,_,rfl⟩;obtain⟨q2,n2,c2,P⟩:∃ q n cc,sliced G f m d EO.sz=.slice q n cc:=⟨_,_,_,rfl⟩;have af:∀ w',(Instr.slice 26 (.slice G m d) none (some (.int .i64 (f:Int))) none).run Tryz.prog w'=.ok (.slice q1 f c1) w':=λw'=>by rw[mi w' _ m d f U,O]
  have ag:∀ w',(Instr.slice 26 (.slice G m d) (some (.int .i64 (f:Int))) none none).run Tryz.prog w'=.ok (.slice q2 n2 c2) w':=λw'=>by rw[kF w' _ m d f z,P]
  have E:Hid (∀ w',ey EO w' (.slice G m d) l->ey EO w' (.slice q1 f c1) (l.take f)/\ey EO w' (.slice q2 n2 c2) (l.drop f)):=λw' h=>by
   have g1:=h.Lr (lo:=0) (hi:=f) (MV _) z;have g2:=h.Lr (lo:=f) (hi:=m) z (MI _);rw[O]at g1;rw[P,<-B.out,Ns]at g2;exact⟨by simpa using g1,g2⟩
  have ac:Hid ((l.take f).length+1+(l.drop f).length<=2199023255552):=by
   show (l.take f).length+1+(l.drop f).length<=2199023255552;have:=B.out;simp only[List.length_take,List.length_drop];omega
  clear i s N hc H hf O P hm;go_enter Tryz.func171,Tryz.ntmps171;go_wp2_with fail;rw[<-A];refine (dU _ l c _ HV.out).mono ?_;rintro e x ⟨rfl,k⟩;rw[J.out];have g:Hid (Bw w x):=j.out.trans (k.mono j.out.size);have K:Hid (x.1[w.1.size]?=some (BH no gen)):=(k.block _ (qL t.out)).trans t.out;obtain⟨Y,Z⟩:=ly K.out;clear k A;go_wp2_with fail;refine (xy _ _ _ S.out).mono ?_;rintro e w' ⟨rfl,rfl⟩;have o:Hid (Bw w (x.alloc (BH no gen))):=g.out.alloc g.out.size _;have V:Hid ((x.alloc (BH no gen)).1[w.1.size]?=some (BH no gen)):=(ML _ _ _ (qL K.out)).trans K.out;clear Y Z;generalize x.alloc (BH no gen)=w2 at *;go_wp2_with fail;refine (vU _ l _ (I.out.up o.out)).mono ?_;rintro e y ⟨rfl,k⟩;rw[ab.out];have L:=hH<|o.out.trans (k.mono o.size);obtain⟨Y,Z⟩:=ly ((k.block _ (qL V.out)).trans V.out);have X:Hid (ey EO y (.slice G m d) l):=I.out.up L.out;have ah:=L.out.size;clear k;have r:Hid (vT y.1.size ((f:Int),c,no,gen) (y.alloc (BO ((f:Int),c,no,gen)))):=(yj (MD y (BO ((f:Int),c,no,gen)))).1;go_wp2_with fail
  go_region_held3 (λw'=>w'.cell? ⟨y.1.size,0,none⟩=some (.int .i64 (f:Int))/\w'.cell? ⟨y.1.size,1,none⟩=some (.int .i64 c)/\w'.cell? ⟨y.1.size,2,none⟩=some (.int .i64 no)/\w'.cell? ⟨y.1.size,3,none⟩=some (.int .i64 gen)) (first | exact r.out | exact iD r.out | exact iD (ft r.out _) | exact iD (ft (ft r.out _) _) | exact ft r.out _ | exact ft (ft r.out _) _ | exact lX (iD (ft (ft r.out _) _)) (by assumption)) (first
   | (go_at_call 195;refine (zb y _ _ (l.take f) (l.drop f) ((f:Int),c,no,gen) (E.out _ X.out).1 (E.out _ X.out).2 ac.out).mono ?_;rintro e w5 ⟨u,rfl,N,aa⟩;obtain⟨pu,nu,cu,rfl⟩:=N.Jt))
  have F:Hid (At EO (λb=>w.1.size<=b) w5 (.slice pu nu cu) (Op.opened l c no gen)/\Bw w w5):=by
   have h:=N.at.imp (T:=λb=>w.1.size<=b) (λb k _=>by omega);rw[<-C.out]at h;have h3:Bw w (((y.alloc (BO ((f:Int),c,no,gen))).alloc (BO ((f:Int),c,no,gen))).alloc (.cells #[.slice q1 f c1,.slice (some ⟨y.1.size+1,0,none⟩) 1 1,.slice q2 n2 c2] 26)):=((L.out.alloc (by omega) _).alloc (by simp;omega) _).alloc (by simp;omega) _;exact⟨h,h3.trans ((dH aa).mono h3.size)⟩
  clear N aa Y Z;go_wp2
  go_ret3
  exact⟨_,_,_,rfl,F.out.1,F.out.2⟩
 ·have C:Hid (Op.opened l c no gen=[]):=ME (by rw[i];exact s);have D:Hid (Op.mu l c no gen=0):=ME (by rw[i];exact s);obtain⟨a,Q⟩:=qE (Op.ask l c);have J:Hid (Op.ask l c=a):=Q;rw[Q]at i s;rw[i,D.out];have ai:(a==0)=false:=MQ.2 s;clear i s Q;go_enter Tryz.func171,Tryz.ntmps171;go_wp2_with fail;rw[<-A];refine (dU _ l c _ HV.out).mono ?_;rintro e x ⟨rfl,k⟩;rw[J.out];have g:=hH<|j.out.trans (k.mono j.size);clear k A;go_wp2
  go_ret3
  exact⟨_,_,_,rfl,by rw[C.out];exact At.nil,g.out⟩
 ·have C:Hid (Op.opened l c no gen=[]):=ME (by rw[i];decide);have D:Hid (Op.mu l c no gen=0):=ME (by rw[i];decide);have J:Hid (Op.ask l c=0):=s;have S:Hid (¬ Ho no gen):=H;rw[i,D.out];clear i s H;go_enter Tryz.func171,Tryz.ntmps171;go_wp2_with fail;rw[<-A];refine (dU _ l c _ HV.out).mono ?_;rintro e x ⟨rfl,k⟩;rw[J.out];have g:=hH<|j.out.trans (k.mono j.size);obtain⟨Y,Z⟩:=ly ((k.block _ (qL t.out)).trans t.out);clear k A;go_wp2_with fail;refine (Hn _ _ _ S.out).mono ?_;rintro e w' ⟨rfl,rfl⟩;have o:Hid (Bw w (x.alloc (BH no gen))):=g.out.alloc g.out.size _;go_wp2
  go_ret3
  exact⟨_,_,_,rfl,by rw[C.out];exact At.nil,o.out⟩
 ·have C:Hid (Op.opened l c no gen=[]):=ME (by rw[i];decide);have D:Hid (Op.mu l c no gen=0):=ME (by rw[i];decide);have J:Hid (Op.ask l c=0):=s;have S:Hid (Ho no gen):=H;rw[i,D.out];rw[B.out]at hl;subst hl;clear i s H N;go_enter Tryz.func171,Tryz.ntmps171;go_wp2_with fail;rw[<-A];refine (dU _ l c _ HV.out).mono ?_;rintro e x ⟨rfl,k⟩;rw[J.out];have g:=hH<|j.out.trans (k.mono j.size);obtain⟨Y,Z⟩:=ly ((k.block _ (qL t.out)).trans t.out);clear k A;go_wp2_with fail;refine (xy _ _ _ S.out).mono ?_;rintro e w' ⟨rfl,rfl⟩;have o:Hid (Bw w (x.alloc (BH no gen))):=g.out.alloc g.out.size _;go_wp2
  go_ret3
  exact⟨_,_,_,rfl,by rw[C.out];exact At.nil,o.out⟩
end Go.Proofs.YtiifhfmekbhlnaaGreat.Os
namespace Go.Proofs.YtiifhfmekbhlnaaGreat
open ChangeShapes WideShapes ChangeAt RowKit Deep It
namespace Nf
def when (E:Int) (P:Prop):Prop:=E=0->P
noncomputable def CC (L:List cL) (O:List Os.dP) (cl:Int) (c:fw):Int:=if gK L c.no c.gen 1 405=0 then Os.Op.iA O cl c.no c.gen else gK L c.no c.gen 1 405
noncomputable def LC (L:List cL) (O:List Os.dP) (cl:Int) (c:fw):Int:=if CC L O cl c=0 then Os.Op.mu O cl c.no c.gen else 0
end Nf
theorem Eg {S:Nat->Prop}(vi vo vs:Value)(dn cl:Int)(c:fw)(L:List Rw)(B:Nat)(w:World)(hB:w.1[B]?=some (gj vi vo vs dn cl c))(hv:cD S w vi L)(O:List Os.dP)(ho:ey Os.EO w vo O) :
  Calls Tryz.prog 140 #[.pointer (some ⟨B,0,none⟩)] w λe w'=>∃ u,e=.returned (nr (Nf.CC (pl L) O cl c) 0 0 0 0 0 0 ⟨#[]⟩ (.slice none 0 0) (Nf.LC (pl L) O cl c))/\w'.1[B]?=some (gj vi (Nf.A1 (Nf.CC (pl L) O cl c) u vo) vs dn cl c)/\Nf.when (Nf.CC (pl L) O cl c) (At Os.EO (λb=>w.1.size<b) w' u (Os.Op.opened O cl c.no c.gen))/\w.grownBy w' (some B):=by
 have ag:=(qL hB);obtain⟨W,hW⟩:=qF (w.alloc fJ);have t:Hid _:=qB hW;have G:Hid _:=qC hW;have y:=qK t hB;have HV:=hH<|hv.up t.out;have ao:w.1.size<W.1.size:=(qL G.out);have ap:B<W.1.size:=(qL y.out);obtain⟨E,C⟩:=qE (Nf.CC (pl L) O cl c);obtain⟨D,l⟩:=qE (Nf.LC (pl L) O cl c);rw[C,l];unfold Nf.LC at l;rw[C]at l;unfold Nf.CC at C;have HO:=hH<|ho.up t.out;obtain⟨o,r,ab,-,-⟩:=ho.open;obtain⟨s,ac⟩:=qE O.length;rw[ac]at ab;subst ab;obtain⟨J,H⟩:=qE (Nf.gK (pl L) c.no c.gen 1 405);have HF:=hH H;rw[H]at C;clear hv hB H ho ac;go_enter Tryz.func140,Tryz.ntmps140;go_wp2_with fail;rw[<-hW];clear hW;refine (oh vi (.slice o s r) vs dn cl c L B W y.out HV.out).mono ?_;rintro e w1 ⟨x,rfl,I,am,k⟩;rw[HF.out]at I |-;obtain⟨Y,K⟩:=qF (w1.alloc (jC x));have M:Bw w1 Y:=by rw[K];exact qG _ _
 have j:Bw W Y:=k.trans (M.mono k.size);have N:=qJ t j;have HZ:=qK j G;have z:=qK j y;have ah:Hid _:=qC K;have ai:=hH<|HO.out.up j;have P:Hid _:=I;have Q:=(qL HZ.out);have aq:=(qL ah.out);have ar:w.1.size≠w1.1.size:=by have:=k.size;omega
 have an:w.1.size<w1.1.size:=by have:=k.size;omega
 clear k M j am I G y HV
 by_cases h0:J=0
 ·rw[MC h0]at C;subst h0;have HC:Hid (∀ V,Bw Y V->Calls Tryz.prog 171 #[.slice o s r,.int .i64 cl,.agg #[.int .i64 c.no,.int .i64 c.gen]] V λe w'=>∃ p n q,e=.returned (.tuple #[.slice p n q,.int .i64 (Os.Op.mu O cl c.no c.gen),.int .i64 E])/\At Os.EO (λb=>w.1.size<b) w' (.slice p n q) (Os.Op.opened O cl c.no c.gen)/\Bw V w'):=λV h=>by
   refine (Os.GS (.slice o s r) O cl c.no c.gen V (ai.out.up h)).mono ?_;rintro e w' ⟨p,n,q,h1,h2,h3⟩;rw[C]at h1;exact⟨p,n,q,h1,h2.imp (λb hb _=>by have h4:=h.size;omega),h3⟩
  have R:Hid (∀ V:World,Bw Y V->V.cell? ⟨B,1,none⟩=some (.slice o s r)/\V.cell? ⟨B,4,none⟩=some (.int .i64 cl)/\V.cell? ⟨B,6,none⟩=some (.int .i64 c.no)/\V.cell? ⟨B,7,none⟩=some (.int .i64 c.gen)):=λV h=>by
   obtain⟨-,t1,-,-,t4,-,t6,t7,-,-,-,-,-,-,-⟩:=gh z.out;exact⟨cC t1 h,cC t4 h,cC t6 h,cC t7 h⟩
  clear P C;obtain⟨fd,ad⟩:=qE (Os.Op.mu O cl c.no c.gen);rw[ad]at HC l;clear ad;go_wp2_with fail;rw[<-K];clear K
  go_region_held3 (λV=>V.cell? ⟨B,1,none⟩=some (.slice o s r)/\V.cell? ⟨B,4,none⟩=some (.int .i64 cl)/\V.cell? ⟨B,6,none⟩=some (.int .i64 c.no)/\V.cell? ⟨B,7,none⟩=some (.int .i64 c.gen)) (first | (refine R.out _ ?_;(repeat (first | with_reducible assumption | with_reducible exact MJ _ _ | with_reducible refine cX ?_));done)) (first
   | (go_at_call 171;refine (HC.out _ (by first | exact MJ _ _ | exact cX (MJ _ _))).mono ?_;rintro e w7 ⟨p,m,q,rfl,af,a⟩;have g:Bw Y w7:=(by first | exact a | exact dH a);have aj:=hH af;clear a af))
  all_goals
   have A:=qJ N g;have d:=qK g HZ;have f:=qK g z;have T:=(qL d.out);have U:=(qL f.out);have i:B≠w.1.size:=by omega
   clear g HC R
   by_cases hE0:E=0
   ·subst hE0;rw[MC rfl]at l;subst l;obtain⟨-,t1,-,-,-,-,-,-,-,-,-,-,-,-,-⟩:=gh f.out;have tf:=zP f.out 1;obtain⟨g0,g1,g2,g3,g4,g5,g6,g7,g8,g9⟩:=ev d.out;have gg:=dw d.out;go_wp2
    refine MK (v:=nr 0 0 0 0 0 0 0 ⟨#[]⟩ (.slice none 0 0) fd) ?_ rfl ⟨.slice p m q,rfl,?_,λ_=>?_,?_⟩
    ·rw[cN rfl]
     go_simp
    ·repeat (with_reducible refine (MM _ _ _ _ (show B≠w.1.size from i)).trans ?_)
     exact ij f.out 1 (.slice p m q)
    ·repeat (with_reducible refine At.setCell ?_ (by show ¬ w.1.size<w.1.size;omega) _)
     exact aj.out.setCell (by show ¬ w.1.size<B;omega) _
    ·repeat (first | refine eN ?_ (.inr rfl) _ | refine eN ?_ (.inl (MI _)) _)
     exact cP A.out _
   ·rw[ME hE0]at l;subst l;have hz:(E != 0)=true:=by simpa using hE0
    have X:Hid _:=hE0;clear hE0;go_wp2_with fail;refine (eV E _).mono ?_;rintro e w8 ⟨rfl,F⟩;have ak:=qJ A F;have Z:=qK F d;have al:=qK F f;obtain⟨g0,g1,g2,g3,g4,g5,g6,g7,g8,g9⟩:=ev Z.out;have gg:=dw Z.out;clear F;go_wp2
    refine MK (v:=nr E 0 0 0 0 0 0 ⟨#[]⟩ (.slice none 0 0) 0) ?_ rfl ⟨.slice none 0 0,rfl,?_,λh=>absurd h X.out,?_⟩
    ·rw[cN rfl]
     go_simp
    ·repeat (with_reducible refine (MM _ _ _ _ (show B≠w.1.size from i)).trans ?_)
     rw[show Nf.A1 E (.slice none 0 0) (.slice o s r)=.slice o s r from ME X.out];exact al.out
    ·repeat (with_reducible refine eN ?_ (.inl (by simp;done)) _)
     exact cP ak.out _
 ·rw[ME h0]at C;subst C;rw[ME h0]at l;subst l;have X:Hid _:=h0;have i:B≠w.1.size:=by omega
  have aa:=(qL z.out);have hz:(J != 0)=true:=by simpa using h0
  clear P h0;go_wp2_with fail;rw[<-K];clear K;refine (eV J _).mono ?_;rintro e w7 ⟨rfl,a⟩;have A:=qJ N a;have d:=qK a HZ;have f:=qK a z;obtain⟨g0,g1,g2,g3,g4,g5,g6,g7,g8,g9⟩:=ev d.out;have gg:=dw d.out;clear a;go_wp2
  refine MK (v:=nr J 0 0 0 0 0 0 ⟨#[]⟩ (.slice none 0 0) 0) ?_ rfl ⟨.slice none 0 0,rfl,?_,λh=>absurd h X.out,?_⟩
  ·rw[cN rfl]
   go_simp
  ·repeat (with_reducible refine (MM _ _ _ _ (show B≠w.1.size from i)).trans ?_)
   rw[show Nf.A1 J (.slice none 0 0) (.slice o s r)=.slice o s r from ME X.out];exact f.out
  ·repeat (with_reducible refine eN ?_ (.inl (by simp;done)) _)
   exact cP A.out _
namespace Nf
noncomputable def I5 (L:List cL) (O:List Os.dP) (h:Int × Int):Int:=if k8 L O h then 0 else eX L h.1 h.2
noncomputable def GF (L:List cL) (O:List Os.dP) (h:Int × Int):List cL:=if k8 L O h then L else if eX L h.1 h.2=0 then gF L h.1 h.2 else L
def vJ (n:Nat) (w':World) (v u:Value) (T T':List cL):Prop:=(u=v/\T'=T)\/∃ L',cD (λb=>n<=b) w' u L'/\pl L'=T'
end Nf
theorem fL {S:Nat->Prop}{w w':World}{v:Value}{L:List Rw}{r:Nat}(h:cD S w v L)(hg:w.grownBy w' (some r))(hr:¬ S r):cD S w' v L:=⟨h.1.grown hg (λg e=>by cases e;exact hr),λx c=>(h.2 x c).gJ hg.size λb a d=>⟨hg.block b d (λe=>by cases e;exact hr a),a⟩⟩
theorem qT {S : Nat → Prop}(vi vo : Value)(sp : Option Addr)(sn sc : Nat)(dn cl : Int)(c : fw)(L : List Rw)(B : Nat)(no gen : Int)(w : World)(hB : w.1[B]?=some (gj vi vo (.slice sp sn sc) dn cl c))(hv : cD S w vi L)(O : List Os.dP)(ho : ey Os.EO w vo O)(hn : names (pl L) no gen=true) :
  Calls Tryz.prog 166 #[.pointer (some ⟨B,0,none⟩),.agg #[.int .i64 no,.int .i64 gen]] w λe w'=>∃ u,e=.returned (iM (Nf.I5 (pl L) O (no,gen)))/\w'.1[B]?=some (gj u vo (.slice sp sn sc) dn cl c)/\Nf.vJ (w.1.size+1) w' vi u (pl L) (Nf.GF (pl L) O (no,gen))/\w.grownBy w' (some B):=by
 have ag:=(MH.1 hB).1;obtain⟨W,N⟩:=qF ((w.alloc (BH no gen)).alloc fJ);have j:=hH<|show Bw w W by rw[N];exact (qG _ _).alloc (by simp) _
 have I:=hH<|show W.heap[w.heap.size]?=some (BH no gen) by rw[N];exact (ML _ _ _ (by simp)).trans (MD _ _)
 have J:=hH<|show W.heap[w.heap.size+1]?=some fJ by rw[N];have h:=MD (w.alloc (BH no gen)) fJ;simpa using h
 have x:=qK j hB;have HV:=hH<|hv.up j.out;have HO:=hH<|ho.up j.out;have ar:w.1.size<W.1.size:=(MH.1 I.out).1;have ah:w.1.size+1<W.1.size:=(MH.1 J.out).1;have au:B<W.1.size:=(MH.1 x.out).1;obtain⟨P,Q,R,-,-⟩:=ho.open;obtain⟨U,X⟩:=qE O.length;rw[X]at R;subst R;obtain⟨k,d,Y,-,-⟩:=hv.open;obtain⟨n,Z⟩:=qE L.length;rw[Z]at Y;subst Y;obtain⟨nb,D⟩:=qE (Nf.k8 (pl L) O (no,gen));have HN:Hid (∀ V,Bw W V->Calls Tryz.prog 72 #[iB (.slice k n d) (.slice P U Q) (.slice sp sn sc) dn,.agg #[.int .i64 no,.int .i64 gen]] V λe w'=>e=.returned (.bool nb)/\Bw V w'):=λV h=>by
  rw[<-D];exact uv (.slice k n d) (.slice P U Q) sp sn sc dn L O no gen V (HV.out.up h) (HO.out.up h) hn
 obtain⟨E,t⟩:=qE (Nf.I5 (pl L) O (no,gen));obtain⟨T,i⟩:=qE (Nf.GF (pl L) O (no,gen));rw[t,i];unfold Nf.I5 at t;unfold Nf.GF at i;rw[D]at t i;have l:Hid (∀ V:World,Bw W V->V.cell? ⟨B,0,none⟩=some (.slice k n d)/\V.cell? ⟨B,1,none⟩=some (.slice P U Q)/\V.cell? ⟨B,2,none⟩=some (.slice sp sn sc)/\V.cell? ⟨B,3,none⟩=some (.int .i64 dn)/\V.cell? ⟨w.1.size,0,none⟩=some (.int .i64 no)/\V.cell? ⟨w.1.size,1,none⟩=some (.int .i64 gen)):=λV h=>by
  obtain⟨t0,t1,t2,t3,-,-,-,-,-,-,-,-,-,-,-⟩:=gh x.out;obtain⟨⟨a0,a1⟩,-⟩:=cU I.out;exact⟨cC t0 h,cC t1 h,cC t2 h,cC t3 h,cC a0 h,cC a1 h⟩
 have HC:Hid (∀ V,Bw W V->Calls Tryz.prog 188 #[.slice k n d,.agg #[.int .i64 no,.int .i64 gen]] V λe w'=>∃ p m q g,e=.returned (.tuple #[.slice p m q,.int .i64 (eX (pl L) no gen)])/\(cD (λb=>W.1.size<=b) w' (.slice p m q) g/\pl g=gF (pl L) no gen)/\Bw V w'):=λV h=>by
  refine (zl (.slice k n d) L no gen V (HV.out.up h)).mono ?_;rintro e w' ⟨u,g,h1,h2,h3,h4⟩;obtain⟨p4,z4,hu,-,-⟩:=h2.open;subst hu;exact⟨p4,g.length,z4,g,h1,⟨h2.more h.size,h3⟩,h4⟩
 obtain⟨F,aa⟩:=qE (eX (pl L) no gen);obtain⟨dt,ab⟩:=qE (gF (pl L) no gen);simp only[aa,ab]at t i HC;obtain⟨T0,ac⟩:=qE (pl L);rw[ac]at i |-;clear hv hB ho hn X Z D aa ab ac HV HO;go_enter Tryz.func166,Tryz.ntmps166;go_wp2_with fail;rw[<-N];clear N;obtain⟨t0,t1,t2,t3,a0,a1⟩:=l.out W (MJ _ _)
 go_region_with (go_at_call 72;refine (HN.out _ (by first | exact MJ _ _ | exact cX (MJ _ _))).mono ?_;rintro e w5 ⟨rfl,G⟩;have a:Bw W w5:=(by first | exact G | exact dH G);clear G)
 all_goals
  have y:=hH<|j.out.trans (a.mono j.out.size);have o:=qK a J;have z:=qK a x;have s:B≠w.1.size+1:=by omega
  have av:=(MH.1 o.out).1;have ap:=(MH.1 z.out).1;clear t0 t1 t2 t3 a0 a1;rcases nb with _ | _
  ·rw[ME (by simp)]at t i
   subst t;obtain⟨t0,-,-,-,a0,a1⟩:=l.out w5 a;have ai:Hid (∀ V,Bw w5 V->Calls Tryz.prog 188 #[.slice k n d,.agg #[.int .i64 no,.int .i64 gen]] V λe w'=>∃ p m q g,e=.returned (.tuple #[.slice p m q,.int .i64 F])/\(cD (λb=>W.1.size<=b) w' (.slice p m q) g/\pl g=dt)/\Bw V w'):=λV h=>HC.out V (a.trans (h.mono a.size))
   have aq:w.1.size+1<W.1.size:=ah;clear HN HC l a;go_wp2_with fail
   go_region_with (first
    | (go_at_call 188;refine (ai.out _ (by first | exact MJ _ _ | exact cX (MJ _ _))).mono ?_;rintro e w6 ⟨p,m,q,g,rfl,ad,H⟩;have f:Bw w5 w6:=(by first | exact H | exact dH H);have aj:=qK f z;have K:=hH ad;have ak:=qJ y f;have M:=qK f o;clear H ad f)
    | (go_at_call 163;refine (gD (.slice k n d) (.slice P U Q) (.slice sp sn sc) dn cl c B p m q F _ aj.out).mono ?_;rintro e w7 ⟨rfl,af,r⟩;have C:w7.1[w.1.size+1]?=some fJ:=(r.block _ (MH.1 M.out).1 (by simp;omega)).trans M.out;obtain⟨g0,g1,g2,g3,g4,g5,g6,g7,g8,g9⟩:=ev C;have gg:=dw C;have al:=hH af;have am:=hH<|fL K.out.1 r (by show ¬ W.1.size<=B;omega);have an:=hH<|cQ (cP ak.out _) r;clear af r C))
   all_goals
    go_wp2
    refine MK (v:=iM F) ?_ rfl ⟨if F=0 then .slice p m q else .slice k n d,rfl,?_,?_,?_⟩
    ·rw[cN rfl]
     go_simp
    ·repeat (with_reducible refine (MM _ _ _ _ (show B≠w.1.size+1 from s)).trans ?_)
     exact al.out
    ·by_cases hz : F=0
     ·rw[MC hz]at i |-
      refine .inr ⟨g,?_,K.out.2.trans i⟩;refine cD.imp ?_ (S:=λb=>W.1.size<=b) (λb hb _=>by omega);exact df (A:=w.1.size+1) (S:=λb=>W.1.size<=b) (by show ¬ W.1.size<=w.1.size+1;omega) (cV F 0 0 0 0 0 0) 0 _ am.out
     ·rw[ME hz]at i |-
      exact .inl ⟨rfl,i.symm⟩
    ·repeat (with_reducible refine eN ?_ (.inl (show w.1.size ≤ w.1.size+1 from Nat.le_succ _)) _)
     exact an.out
  ·rw[MC rfl]at t i
   subst t;subst i;obtain⟨g0,g1,g2,g3,g4,g5,g6,g7,g8,g9⟩:=ev o.out;have gg:=dw o.out;clear HN HC l a;go_wp2
   refine MK (v:=iM 0) ?_ rfl ⟨.slice k n d,rfl,?_,.inl ⟨rfl,rfl⟩,?_⟩
   ·rw[cN rfl]
    go_simp
   ·repeat (with_reducible refine (MM _ _ _ _ (show B≠w.1.size+1 from s)).trans ?_)
    exact z.out
   ·repeat (with_reducible refine eN ?_ (.inl (show w.1.size ≤ w.1.size+1 from Nat.le_succ _)) _)
    exact cP y.out _
end Go.Proofs.YtiifhfmekbhlnaaGreat
namespace Go.Proofs.YtiifhfmekbhlnaaGreat.Os
open ChangeShapes WideShapes ChangeAt RowKit Deep
theorem eB {fn:Func}{p t u:Tmp}{ty:TypeId}(h:fn.results=#[.tmp t,.cell p ty,.tmp u])(tmps)(P)(w) :
  (results fn tmps).run P w=((asAddr (tmps.getD p undef)).run P w).andThen λa w₁=>((loadVar ty a).run P w₁).andThen λv w₂=>.ok (.tuple #[tmps.getD t undef,v,tmps.getD u undef]) w₂:=by
 simp only[results,h];simp[Sem.run_bind,Result.andThen]
theorem _root_.Go.Proofs.YtiifhfmekbhlnaaGreat.At.Ih {α:Type}{E:fY α}{S:Nat->Prop}{w:World}{v:Value}{l:List α}(h:At E S w v l){p:Addr}(hp:¬ S p.block)(u):At E S (w.setCell p u) v l :=
 h.gJ (by simp[World.setCell]) λb a _=>⟨MM _ _ _ _ (λe=>hp (e ▸ a)),a⟩
theorem kT {X:Nat}{x:dP}{w:World}(h:vT X x w){p:Addr}(hX:X≠p.block)(u):vT X x (w.setCell p u) :=
 ⟨(dJ (MM _ _ _ _ hX)).trans h.1,(dJ (MM _ _ _ _ hX)).trans h.2.1,(dJ (MM _ _ _ _ hX)).trans h.2.2.1,(dJ (MM _ _ _ _ hX)).trans h.2.2.2⟩
theorem sf {w:World}{A:Nat}{no gen:Int}(h:w.1[A]?=some (BH no gen)):∀ j,w.frozen? ⟨A,j,none⟩=false:=λj=>by simp[World.frozen?,h]
namespace Op
theorem FT (l)(c fd):l.find? (js c fd)=(owned l c).find? (λx=>x.1==fd):=by
 unfold owned;rw[List.find?_filter]
 congr 1
 funext a
 rw[Pk];simp[js]
theorem DI (l)(c):(owned l c).length<=l.length:=OH _ _
end Op
theorem E9 (v:Value)(l:List dP)(c fd:Int)(w:World) (hv:ey EO w v l) :
  Calls Tryz.prog 172 #[v,.int .i64 c,.int .i64 fd] w λe w'=>∃ p n q,e=.returned (.tuple #[.slice p n q,VH (Op.gq l c fd).1 (Op.gq l c fd).2,.int .i64 (Op.eO l c fd)])/\At EO (λb=>w.heap.size<=b) w' (.slice p n q) (Op.closed l c fd)/\Bw w w':=by
 have T:=hv;obtain⟨ao,B,rfl,hm,-⟩:=T.open;clear T;unfold maxLen at hm;obtain⟨m,I⟩:=qE l.length;rw[I]at hm hv |-;have U:Hid (l.length=m):=I;clear I;obtain⟨W,O⟩:=qF (w.alloc (BH 0 0));have r:Hid _:=qB O;have u:Hid (W.heap[w.heap.size]?=some (BH 0 0)):=by show W.heap[w.heap.size]?=some (BH 0 0);rw[O];exact MD w (BH 0 0)
 have HV:Hid (ey EO W (.slice ao m B) l):=hv.up r.out;clear hv
 by_cases ha:Op.ask l c=0
 ·have HR:Hid (l.length<=16):=by
   rcases Op.ns l c with⟨_,hr,_⟩ | ⟨h,_⟩ | ⟨h,_⟩
   ·exact Op.ew hr
   ·omega
   ·omega
  have HA:Hid (Op.ask l c=0):=ha;have HE:Hid (Op.eO l c fd=(match l.find? (Op.js c fd)with | some _=>0 | none=>411)):=MC ha;have HO:Hid (Op.gq l c fd=(match l.find? (Op.js c fd)with | some x=>x.2.2 | none=>(0,0))):=MC ha;have HC:Hid (Op.closed l c fd=(match l.find? (Op.js c fd)with | some x=>Op.gP l [x] | none=>[])):=MC ha;obtain⟨ce,J⟩:=qE (Op.eO l c fd);obtain⟨o1,K⟩:=qE ((Op.gq l c fd).1);obtain⟨o2,L⟩:=qE ((Op.gq l c fd).2);rw[J,K,L];have V:Hid (Op.eO l c fd=ce/\(Op.gq l c fd).1=o1/\(Op.gq l c fd).2=o2):=⟨J,K,L⟩;clear ha J K L;go_enter Tryz.func172,Tryz.ntmps172;go_wp2_with fail;rw[<-O];refine (dU _ l c _ HV.out).mono ?_;rintro e P ⟨rfl,j⟩;rw[HA.out];have y:=hH<|r.out.trans (j.mono r.size);have s:=hH<|(j.block _ (qL u)).trans u;have X:Hid (ey EO P (.slice ao m B) l):=HV.out.up j;clear j O;go_wp2_with fail;refine (El _ l c _ X.out (by have:=HR.out;omega)).mono ?_;rintro e Q ⟨p2,n2,q2,rfl,h2,j⟩;have Y:=hH<|y.out.trans (j.mono y.size);have Z:=hH<|(j.block _ (qL s)).trans s;have ag:Hid (ey EO Q (.slice ao m B) l):=X.out.up j;obtain⟨g,hg⟩:=qE (Op.owned l c);have HG:Hid (Op.owned l c=g):=hg;rw[hg]at h2;obtain⟨ax,au,ad,-,af⟩:=h2.wide.open;simp only[Value.slice.injEq]at ad;obtain⟨rfl,rfl,rfl⟩:=ad;obtain⟨n,hn⟩:=qE g.length;rw[hn];have HN:Hid (g.length=n):=hn;have HX:Hid (KI Q p2 g):=af;have aq:n<=16:=by have h1:=Op.DI l c;have:=HR.out;rw[hg,hn]at h1;omega
  have ah:w.1.size<Q.1.size:=(qL Z.out);clear j h2 af hg hn;go_wp2;go_loopw [23] (λi wr=>∃ (k:Nat),k<=n/\i=.int .i64 k/\Hid (l.find? (Op.js c fd)=(g.drop k).find? (λx=>x.1==fd))/\Hid (Bw Q wr)) (λi _=>n-(intOf i).toNat)
  case atStart=>exact⟨0,MV _,rfl,by rw[List.drop_zero,<-HG.out];exact Op.FT l c fd,MJ _ _⟩
  case round =>
   obtain⟨k,hk,rfl,HP,R⟩:=hrel;have aa:Hid (Bw w wr):=Y.out.trans (R.out.mono Y.out.size);have ai:=R.out.size;have z:Hid (wr.1[w.1.size]?=some (BH 0 0)):=(R.out.block _ ah).trans Z.out
   by_cases hlt:k<n
   ·obtain⟨x,M⟩:∃ x,g[k]?=some x:=⟨_,MF (by rw[HN.out];exact hlt)⟩;have ab:Hid (g[k]?=some x):=M;obtain⟨b,ay,rfl,-,hB,hc⟩:=HX.out k x M;obtain⟨c0,c1,c2,c3⟩:=jO R.out hB hc;clear hc M;have ar:(k:Int)<(n:Int):=by omega
    by_cases gx:x.1=fd
    ·have HF:Hid (l.find? (Op.js c fd)=some x):=by
      have:=HP.out;rw[Op.gR ab.out,List.find?_cons_of_pos (by simp[gx])]at this;exact this
     have f:Hid (ce=0/\o1=x.2.2.1/\o2=x.2.2.2/\Op.closed l c fd=Op.gP l [x]):=by
      have F:=HE.out;have G:=HO.out;have H:=HC.out;have A:=V.out;rw[HF.out]at F G H;simp only at F G H;rw[F,G]at A;exact⟨A.1.symm,A.2.1.symm,A.2.2.symm,H⟩
     have g1:(x.1==fd)=true:=by simp[gx]
     have o:Hid (vT wr.1.size x (wr.alloc (BO x))):=(yj (MD wr (BO x))).1;have ac:Hid (Bw w ((wr.alloc (BO x)).alloc (BO x))):=(aa.out.alloc (by omega) _).alloc (by simp;omega) _;have aj:Hid (ey EO ((wr.alloc (BO x)).alloc (BO x)) (.slice ao m B) l):=((ag.out.up R.out).up (qG _ _)).up (qG _ _);have ak:Hid (ey EO ((wr.alloc (BO x)).alloc (BO x)) (.slice (some ⟨wr.1.size+1,0,none⟩) 1 1) [x]):=vf wr x;have HZ:Hid (∀ E,Below ((wr.alloc (BO x)).alloc (BO x)).drew.1.size ((wr.alloc (BO x)).alloc (BO x)).drew E->E.1[w.1.size]?=some (BH 0 0)):=λE j=>by
      have hl:=(qL z.out);rw[j.block _ (by show _<Array.size _;simp;omega)];exact (ML _ _ _ (by simp;omega)).trans ((ML _ _ _ hl).trans z.out)
     have t:wr.1.size≠w.1.size:=by omega
     have al:m<=4398046511104:=by have:=HR.out;have:=U.out;omega
     clear gx;go_wp2_with fail
     go_region_held3 (λw'=>w'.cell? ⟨wr.1.size,0,none⟩=some (.int .i64 x.1)/\w'.cell? ⟨wr.1.size,1,none⟩=some (.int .i64 x.2.1)/\w'.cell? ⟨wr.1.size,2,none⟩=some (.int .i64 x.2.2.1)/\w'.cell? ⟨wr.1.size,3,none⟩=some (.int .i64 x.2.2.2)) (first | exact o.out | exact iD o.out | exact iD (ft o.out _) | exact ft o.out _ | exact lX (iD (ft o.out _)) (by assumption) | exact kT (lX (iD (ft o.out _)) (by assumption)) t _ | exact kT (kT (lX (iD (ft o.out _)) (by assumption)) t _) t _) (first
      | (go_at_call 197;refine (AP _ _ l [x] ((wr.alloc (BO x)).alloc (BO x)).drew aj.out ak.out (by rw[U.out];exact al)).mono ?_;rintro e E ⟨pu,nu,cu,rfl,hr,C⟩;have am:=ly (HZ.out E C);have av:=sf (HZ.out E C);obtain⟨z0,z1⟩:=am))
     have D:Hid (At EO (λb=>wr.1.size<=b) E (.slice pu nu cu) (Op.gP l [x])/\Bw w E):=by
      exact⟨hr.imp (λb j _=>by have an:((wr.alloc (BO x)).alloc (BO x)).1.size<=b:=j;simp at an;omega),ac.out.trans ((dH C).mono ac.out.size)⟩
     clear hr C;go_wp2
     (try simp only[Exit.inBlock,Exit.then])
     refine MK (v:=.tuple #[.slice pu nu cu,VH x.2.2.1 x.2.2.2,.int .i64 0]) ?_ rfl ⟨pu,nu,cu,by rw[f.out.1,f.out.2.1,f.out.2.2.1],?_,?_⟩
     ·rw[eB rfl]
      go_simp
     ·rw[f.out.2.2.2];refine At.imp (S:=λb=>wr.1.size<=b) ?_ (λb j _=>by omega)
      repeat (refine At.Ih ?_ (by simp;omega) _)
      exact D.out.1
     ·repeat (refine MP ?_ (by simp) _)
      exact D.out.2
    ·have ap:Hid (l.find? (Op.js c fd)=(g.drop (k+1)).find? (λx=>x.1==fd)):=by
      have:=HP.out;rw[Op.gR ab.out,List.find?_cons_of_neg (by simp[gx])]at this;exact this
     have g1:(x.1==fd)=false:=MQ.2 gx;clear gx;go_wp2
     go_roundw
     case rel=>exact⟨k+1,by omega,by go_num,ap,R.out.alloc ai _⟩
     case measure=>simp[intOf];omega
   ·obtain rfl:k=n:=by omega
    have f:Hid (ce=411/\o1=0/\o2=0/\Op.closed l c fd=[]):=by
     have F:=HE.out;have G:=HO.out;have H:=HC.out;have A:=V.out;have hf:=HP.out;rw[<-HN.out,List.drop_length,List.find?_nil]at hf;rw[hf]at F G H;simp only at F G H;rw[F,G]at A;exact⟨A.1.symm,A.2.1.symm,A.2.2.symm,H⟩
    obtain⟨z0,z1⟩:=ly z.out;have zf:=sf z.out;go_wp2
    (try simp only[Exit.inBlock,Exit.then])
    refine MK (v:=.tuple #[.slice none 0 0,VH 0 0,.int .i64 411]) ?_ rfl ⟨none,0,0,by rw[f.out.1,f.out.2.1,f.out.2.2.1],by rw[f.out.2.2.2];exact At.nil,?_⟩
    ·rw[eB rfl]
     go_simp
    ·repeat (refine MP ?_ (by simp) _)
     exact aa.out
 ·have HE:Hid (Op.eO l c fd=Op.ask l c):=ME ha;have HO:Hid (Op.gq l c fd=(0,0)):=ME ha;have HC:Hid (Op.closed l c fd=[]):=ME ha;rw[HE.out,HO.out];obtain⟨a,N⟩:=qE (Op.ask l c);have HA:Hid (Op.ask l c=a):=N;rw[N]at ha |-;have aw:(a==0)=false:=MQ.2 ha;clear ha N;go_enter Tryz.func172,Tryz.ntmps172;go_wp2_with fail;rw[<-O];refine (dU _ l c _ HV.out).mono ?_;rintro e P ⟨rfl,j⟩;rw[HA.out];have y:=hH<|r.out.trans (j.mono r.size);have s:=hH<|(j.block _ (qL u)).trans u;obtain⟨z0,z1⟩:=ly s.out;have zf:=sf s.out;clear j O;go_wp2
  (try simp only[Exit.inBlock,Exit.then])
  refine MK (v:=.tuple #[.slice none 0 0,VH 0 0,.int .i64 a]) ?_ rfl ⟨none,0,0,rfl,by rw[HC.out];exact At.nil,?_⟩
  ·rw[eB rfl]
   go_simp
  ·repeat (refine MP ?_ (by simp) _)
   exact y.out
end Go.Proofs.YtiifhfmekbhlnaaGreat.Os
namespace Go.Proofs.YtiifhfmekbhlnaaGreat
section
open ChangeShapes WideShapes ChangeAt RowKit Deep It
namespace Nf
noncomputable def Kv (L:List cL) (O:List Os.dP) (cl fd:Int):Int:=if Os.Op.eO O cl fd=0 then I5 L (Os.Op.closed O cl fd) (Os.Op.gq O cl fd) else Os.Op.eO O cl fd
noncomputable def KH (L:List cL) (O:List Os.dP) (cl fd:Int):List cL:=if Os.Op.eO O cl fd=0 then GF L (Os.Op.closed O cl fd) (Os.Op.gq O cl fd) else L
theorem vJ.mono {n m:Nat}{w':World}{v u:Value}{T T':List cL}(h:vJ n w' v u T T')(hk:m<=n):vJ m w' v u T T':=by
 rcases h with h | ⟨a,b,c⟩
 ·exact .inl h
 ·exact .inr ⟨a,b.more hk,c⟩
theorem vJ.cells {n:Nat}{w':World}{v u:Value}{T T':List cL}(h:vJ n w' v u T T'){A:Nat}(hA:A<n)(vs)(o):vJ n (w'.setCells A o vs) v u T T':=by
 rcases h with h | ⟨a,b,c⟩
 ·exact .inl h
 ·exact .inr ⟨a,df qo vs o _ b,c⟩
end Nf
theorem Al {S:Nat->Prop}{w:World}{v:Value}{L:List Rw}(h:cD S w v L){p:Addr}(hp:¬ S p.block)(u):cD S (w.setCell p u) v L:=⟨h.1.setCell hp u,λx a=>(h.2 x a).setCell hp u⟩
theorem BG {S : Nat → Prop}(vi vo : Value)(sp : Option Addr)(sn sc : Nat)(dn cl : Int)(c : fw)(L : List Rw)(B : Nat)(w : World)(hB : w.1[B]?=some (gj vi vo (.slice sp sn sc) dn cl c))(hv : cD S w vi L)(rZ : ¬ S B)(O : List Os.dP)(ho : ey Os.EO w vo O)(hn : Os.Op.eO O cl c.n=0 → names (pl L) (Os.Op.gq O cl c.n).1 (Os.Op.gq O cl c.n).2=true) :
    Calls Tryz.prog 141 #[.pointer (some ⟨B,0,none⟩)] w λe w'=>∃ u uo,e=.returned (iM (Nf.Kv (pl L) O cl c.n))/\w'.1[B]?=some (gj u (Nf.A1 (Os.Op.eO O cl c.n) uo vo) (.slice sp sn sc) dn cl c)/\Nf.vJ (w.1.size + 1) w' vi u (pl L) (Nf.KH (pl L) O cl c.n)/\Nf.when (Os.Op.eO O cl c.n) (At Os.EO (λb=>w.heap.size < b) w' uo (Os.Op.closed O cl c.n))/\w.grownBy w' (some B):=by
  have az:=(MH.1 hB).1;obtain⟨W,hW⟩:=qF (w.alloc fJ);have t:Hid _:=qB hW;have aa:Hid _:=qC hW;have D:Hid (W.1[B]?=some (gj vi vo (.slice sp sn sc) dn cl c)):=(t.out.block _ az).trans hB;have HV:Hid (cD S W vi L):=hv.up t.out;have HO:Hid (ey Os.EO W vo O):=ho.up t.out;have ab:w.1.size<W.1.size:=(MH.1 aa.out).1;have aA:B < W.heap.size:=(MH.1 D.out).1;have T:B≠w.heap.size:=by omega
  obtain ⟨U,X,au,-,-⟩:=ho.open;obtain ⟨om,av⟩:=qE O.length;rw [av] at au;subst au;obtain ⟨-,t1,-,-,t4,-,-,-,-,-,-,-,-,aw,-⟩:=gh D.out;have aj:Hid (∀ V:World,Bw W V->V.cell? ⟨B,1,none⟩ = some (.slice U om X)/\V.cell? ⟨B,4,none⟩ = some (.int .i64 cl)/\V.cell? ⟨B,13,none⟩ = some (.int .i64 c.n)):=λV h=>⟨cC t1 h,cC t4 h,cC aw h⟩
  clear hv hB av ho t1 t4 aw;obtain ⟨E,hE⟩:=qE (Os.Op.eO O cl c.n);obtain ⟨⟨j,k⟩,hq⟩:=qE (Os.Op.gq O cl c.n);obtain ⟨s,K⟩:=qE (Os.Op.closed O cl c.n);obtain ⟨E2,a⟩:=qE (Nf.Kv (pl L) O cl c.n);obtain ⟨T2,d⟩:=qE (Nf.KH (pl L) O cl c.n);rw [a,d,hE,K];unfold Nf.Kv at a;unfold Nf.KH at d;rw [hE,K,hq] at a d;rw [hE,hq] at hn;have ac:Hid (E=0->names (pl L) j k=true):=hn;have F:Hid ((if E = 0 then Nf.I5 (pl L) s (j,k) else E) = E2):=a;have G:Hid ((if E = 0 then Nf.GF (pl L) s (j,k) else pl L) = T2):=d;have HC:Hid (∀ V,Bw W V->Calls Tryz.prog 172 #[.slice U om X,.int .i64 cl,.int .i64 c.n] V λe w'=>∃ p m q,e = .returned (.tuple #[.slice p m q,.agg #[.int .i64 j,.int .i64 k],.int .i64 E])/\At Os.EO (λb=>V.heap.size<=b) w' (.slice p m q) s/\Bw V w'):=λV h=>by
    have h1:=Os.E9 (.slice U om X) O cl c.n V (HO.out.up h);rw [hE,hq,K] at h1;exact h1
  clear hE hq K a d hn HO;go_enter Tryz.func141,Tryz.ntmps141;go_wp2_with fail;rw [<-hW];clear hW;have f:Hid (Bw W (W.alloc (BH 0 0))):=qG _ _;have l:Hid (Bw W (W.drew.alloc (BH 0 0))):=(cX (MJ _ _)).alloc (MI _) _;apply lM
  · intro hK
    go_region_held3 (λV=>V.cell? ⟨B,1,none⟩=some (.slice U om X)/\V.cell? ⟨B,4,none⟩=some (.int .i64 cl)/\V.cell? ⟨B,13,none⟩=some (.int .i64 c.n)) (first | exact aj.out _ (by (repeat (first | with_reducible assumption | with_reducible exact MJ _ _ | with_reducible refine cX ?_ | with_reducible refine MP ?_ (by first | exact MI _ | assumption) _ | with_reducible refine Nr ?_ (by first | exact MI _ | assumption) _)))) (first
      | (go_at_call 172;refine (HC.out _ (by first | exact MJ _ _ | exact cX (MJ _ _) | exact f.out | exact l.out | exact cX f.out)).mono ?_;rintro e C ⟨p,m,q,rfl,M,i⟩;have o : Bw W C := (by first | exact i | exact dH i | exact l.out.trans (i.mono l.out.size) | exact f.out.trans ((dH i).mono f.out.size) | exact f.out.trans (i.mono f.out.size));have aB : W.1.size ≤ C.1.size := o.size;(first
        | (have x:C.1[W.1.size]?=some (BH 0 0):=(by first | exact (i.block _ (by simp)).trans (MD W.drew _) | exact (i.block _ (by show _<Array.size _;simp)).trans (MD W _));have f0:=cJ x 0;have f1:=cJ x 1;have ff:=dw x;have ak:Hid (C.1[W.1.size]?=some (BH 0 0)):=x;have H:Hid (At Os.EO (λb=>W.1.size<b) C (.slice p m q) s):=M.imp (λb hb _=>by simp at hb;omega);clear M;clear x)
        | (have H:Hid (At Os.EO (λb=>W.1.size<=b) C (.slice p m q) s):=M.imp (λb hb _=>by first | exact hb | (simp at hb;omega));clear M));clear i))
    all_goals first
      | (obtain⟨Y,N⟩ : ∃ Y,Y=C.alloc (BH j k) := ⟨_,rfl⟩
         rw[<-N];have ad:Bw W Y:=by rw[N];exact o.alloc o.size _
         obtain⟨A,P⟩:=qF C.1.size;have af:Y.1[A]?=some (BH j k):=by rw[N,P];exact MD _ _
         have ag:W.1.size<=A:=by rw[P];exact aB
         have ah:At Os.EO (λb=>w.1.size<b) Y (.slice p m q) s:=by rw[N];exact (H.out.imp (λb hb _=>M6 ab hb)).up (qG _ _)
         rw[<-P];clear P N)
      | (obtain⟨Y,N⟩ : ∃ Y,Y=((C.setCell ⟨W.1.size,0,none⟩ (.int .i64 j)).setCell ⟨W.1.size,1,none⟩ (.int .i64 k)) := ⟨_,rfl⟩
         rw[<-N];have I:Y=C.setCells W.1.size 0 ([.int .i64 j,.int .i64 k]):=N;have ad:Bw W Y:=by rw[I];exact da (MI _) _ _ _ o
         obtain⟨A,P⟩:=qF W.1.size;have af:Y.1[A]?=some (BH j k):=by rw[I,P];exact dO ([.int .i64 j,.int .i64 k]) ak.out rfl
         have ag:W.1.size<=A:=by rw[P];exact MI _
         have ah:At Os.EO (λb=>w.1.size<b) Y (.slice p m q) s:=by rw[I];exact (dB (λh=>Nat.lt_irrefl _ h) _ _ _ H.out).imp (λb hb _=>Nat.lt_trans ab hb)
         rw[<-P];clear P N I f0 f1 ff ak)
    all_goals
      have r:Hid (Bw W Y/\Y.1[A]?=some (BH j k)/\W.1.size<=A/\At Os.EO (λb=>w.1.size<b) Y (.slice p m q) s):=⟨ad,af,ag,ah⟩;clear ad af ag ah H;revert r;revert A Y q m p;exact hK.out
  intro p m q Y A r;clear aj f l HC;have ai:Hid (Bw w Y):=t.out.trans (r.out.1.mono t.out.size);have HZ:Hid (Y.1[w.1.size]?=some fJ):=(r.out.1.block _ ab).trans aa.out;have y:Hid (Y.1[B]?=some (gj vi (.slice U om X) (.slice sp sn sc) dn cl c)):=(r.out.1.block _ aA).trans D.out;have aC:Hid (cD S Y vi L):=HV.out.up r.out.1;have aD:Hid (At Os.EO (λb=>w.1.size<b) Y (.slice p m q) s):=r.out.2.2.2;have aL:=(MH.1 HZ.out).1;have aM:=(MH.1 r.out.2.1).1;have aK:w.1.size≠A:=by have:=r.out.2.2.1;omega
  have aE:A≠B:=by have:=r.out.2.2.1;omega
  have al:Hid (Y.1[A]?=some (BH j k)):=r.out.2.1;clear r aa D HV
  by_cases h0:E=0
  · subst h0
    have hN:=ac.out rfl;have a:=F.out;have d:=G.out;rw[MC rfl]at a d;obtain⟨Z,hZ⟩:=qF (Y.setCell ⟨B,1,none⟩ (.slice p m q));have aF:Hid (Z.1[B]?=some (gj vi (.slice p m q) (.slice sp sn sc) dn cl c)):=by show Z.1[B]?=_;rw[hZ];exact ij y.out 1 _
    have am:Hid (At Os.EO (λb=>w.1.size<b) Z (.slice p m q) s):=by show At _ _ Z _ _;rw[hZ];exact aD.out.setCell (by show ¬ w.1.size<B;omega) _
    have an:Hid (cD S Z vi L):=by show cD _ Z _ _;rw[hZ];exact Al aC.out (p:=⟨B,1,none⟩) rZ _
    have ao:Hid (Z.1[w.1.size]?=some fJ):=by show Z.1[w.1.size]?=_;rw[hZ];exact (MM _ _ _ _ (by show w.1.size≠B;omega)).trans HZ.out
    have ap:Hid (Z.1[A]?=some (BH j k)):=by show Z.1[A]?=_;rw[hZ];exact (MM _ _ _ _ (by show A≠B;exact aE)).trans al.out
    have aG:Hid (w.grownBy Z (some B)):=by show w.grownBy Z (some B);rw[hZ];exact eN (cP ai.out _) (.inr rfl) _
    have aq:=(MH.1 ao.out).1;have ar:Hid (Calls Tryz.prog 166 #[.pointer (some ⟨B,0,none⟩),.agg #[.int .i64 j,.int .i64 k]] Z λe w'=>∃ u,e=.returned (iM E2)/\w'.1[B]?=some (gj u (.slice p m q) (.slice sp sn sc) dn cl c)/\Nf.vJ (Z.1.size+1) w' vi u (pl L) T2/\Z.grownBy w' (some B)):=by
      have h1:=qT vi (.slice p m q) sp sn sc dn cl c L B j k Z aF.out an.out s am.out.wide hN;rw[a,d]at h1;exact h1
    obtain⟨⟨a0,a1⟩,_⟩:=cU al.out;obtain⟨-,t1,-,-,-,-,-,-,-,-,-,-,-,-,-⟩:=gh y.out;have tf:=zP y.out 1;have aN:Hid (∃ a0:Z.cell? ⟨A,0,none⟩=some (.int .i64 j),Z.cell? ⟨A,1,none⟩=some (.int .i64 k)):=by
      obtain⟨⟨b0,b1⟩,_⟩:=cU ap.out;exact⟨b0,b1⟩
    clear a d F G ac hN an ap;go_wp2_with fail;rw[<-hZ];clear hZ t1 tf a0 a1;refine ar.out.mono ?_;rintro e w7 ⟨u,rfl,ax,ay,Q⟩;have J:Hid (w7.1[B]?=some (gj u (.slice p m q) (.slice sp sn sc) dn cl c)):=ax;have aH:Hid (Nf.vJ (w.1.size+1) w7 vi u (pl L) T2):=ay.mono (by omega);have aI:Hid (At Os.EO (λb=>w.1.size<b) w7 (.slice p m q) s):=am.out.grown Q (λg e=>by cases e;omega);have aJ:Hid (w.grownBy w7 (some B)):=cQ aG.out Q;have z:=hH<|(Q.block _ aq qt).trans ao;obtain⟨g0,g1,g2,g3,g4,g5,g6,g7,g8,g9⟩:=ev z.out;have gg:=dw z.out;clear ax ay Q ar;go_wp2
    (try simp only[Exit.inBlock,Exit.then])
    refine MK (v:=iM E2) ?_ rfl ⟨u,.slice p m q,rfl,?_,?_,λ_=>?_,?_⟩
    · rw[cN rfl]
      go_simp
    · repeat (with_reducible refine (MM _ _ _ _ (show B≠w.1.size from T)).trans ?_)
      exact J.out
    · exact aH.out.cells (A:=w.1.size) (Nat.lt_succ_self _) (cV E2 0 0 0 0 0 0) 0
    · exact dB (A:=w.1.size) (S:=λb=>w.1.size<b) (by simp) (cV E2 0 0 0 0 0 0) 0 _ aI.out
    · repeat (with_reducible refine eN ?_ (.inl (MI w.1.size)) _)
      exact aJ.out
  · have a := F.out
    have d:=G.out;rw[ME h0]at a d;subst a;subst d;have hz:(E != 0)=true:=by simpa using h0
    have HE:Hid (E≠0):=h0;clear F G ac;go_wp2_with fail;refine (eV E _).mono ?_;rintro e w7 ⟨rfl,R⟩;have J:Hid (w.grownBy w7 (some B)/\w7.1[B]?=some (gj vi (.slice U om X) (.slice sp sn sc) dn cl c)):=⟨cP (ai.out.trans (R.mono ai.out.size)) _,(R.block _ (MH.1 y.out).1).trans y.out⟩;have z:=qK R HZ;obtain⟨g0,g1,g2,g3,g4,g5,g6,g7,g8,g9⟩:=ev z.out;have gg:=dw z.out;clear R;go_wp2
    (try simp only[Exit.inBlock,Exit.then])
    refine MK (v:=iM E) ?_ rfl ⟨vi,.slice none 0 0,rfl,?_,.inl ⟨rfl,rfl⟩,λh=>absurd h HE.out,?_⟩
    · rw[cN rfl]
      go_simp
    · repeat (with_reducible refine (MM _ _ _ _ (show B≠w.1.size from T)).trans ?_)
      rw[show Nf.A1 E (.slice none 0 0) (.slice U om X)=.slice U om X from ME HE.out];exact J.out.2
    · repeat (with_reducible refine eN ?_ (.inl (MI w.1.size)) _)
      exact J.out.1
namespace Nf
noncomputable def Kh (L:List cL) (O:List Os.dP) (a b:Int) (s:ByteArray) (st:Int):Int:=if Sp.vR (Sp.dW Sp.cZ) L a b s st=0 then I5 (Sp.yQ (Sp.dW Sp.cZ) L a b s st) O (Sp.xJ (Sp.dW Sp.cZ) L a b s st) else Sp.vR (Sp.dW Sp.cZ) L a b s st
noncomputable def Kq (L:List cL) (O:List Os.dP) (a b:Int) (s:ByteArray) (st:Int):List cL:=if Sp.vR (Sp.dW Sp.cZ) L a b s st=0 then GF (Sp.yQ (Sp.dW Sp.cZ) L a b s st) O (Sp.xJ (Sp.dW Sp.cZ) L a b s st) else L
end Nf
theorem AI {S : Nat → Prop} (vi vo : Value) (sp : Option Addr) (sn sc : Nat) (dn cl : Int) (c : fw) (L : List Rw) (B : Nat) (w : World) (hB : w.heap[B]? = some (gj vi vo (.slice sp sn sc) dn cl c)) (hv : cD S w vi L) (rZ : ¬ S B) (O : List Os.dP) (ho : At Os.EO S w vo O) (eE : Sp.m6 L) (hs : c.nm.size ≤ maxLen) (hn : Sp.vR (Sp.dW Sp.cZ) (pl L) c.no c.gen c.nm dn = 0 → names (Sp.yQ (Sp.dW Sp.cZ) (pl L) c.no c.gen c.nm dn) (Sp.xJ (Sp.dW Sp.cZ) (pl L) c.no c.gen c.nm dn).1 (Sp.xJ (Sp.dW Sp.cZ) (pl L) c.no c.gen c.nm dn).2 = true) :
    Calls Tryz.prog 136 #[.pointer (some ⟨B,0,none⟩)] w λe w'=>∃ u,e = .returned (iM (Nf.Kh (pl L) O c.no c.gen c.nm dn))/\w'.heap[B]? = some (gj u vo (.slice sp sn sc) dn cl c)/\Nf.vJ (w.heap.size + 1) w' vi u (pl L) (Nf.Kq (pl L) O c.no c.gen c.nm dn)/\w.grownBy w' (some B):=by
  have hBl:=(MH.1 hB).1;obtain ⟨W,hW⟩:=qF (w.alloc fJ);have HB0:Hid _:=qB hW;have HA0:Hid _:=qC hW;have HT0:Hid (W.1[B]?=some (gj vi vo (.slice sp sn sc) dn cl c)):=(HB0.out.block _ hBl).trans hB;have HV:Hid (cD S W vi L):=hv.up HB0.out;have HO:Hid (At Os.EO S W vo O):=ho.up HB0.out;have hwW:w.heap.size < W.heap.size:=(MH.1 HA0.out).1;have hBW:B < W.heap.size:=(MH.1 HT0.out).1;have hBne:B≠w.heap.size:=by omega
  obtain ⟨oo,oc,hso,-,-⟩:=ho.open;obtain ⟨om,hom⟩:=qE O.length;rw [hom] at hso;subst hso;obtain ⟨ao,cap,hsi,-,-⟩:=hv.open;obtain ⟨n,hn'⟩:=qE L.length;rw [hn'] at hsi;subst hsi;obtain ⟨t0,-,-,t3,-,-,t6,t7,-,-,t10,-,-,-,-⟩:=gh HT0.out;have HSG:Hid (∀ V:World,Bw W V->V.cell? ⟨B,0,none⟩ = some (.slice ao n cap)/\V.cell? ⟨B,3,none⟩ = some (.int .i64 dn)/\V.cell? ⟨B,6,none⟩ = some (.int .i64 c.no)/\V.cell? ⟨B,7,none⟩ = some (.int .i64 c.gen)/\V.cell? ⟨B,10,none⟩ = some (.string c.nm)):=λV h=>⟨cC t0 h,cC t3 h,cC t6 h,cC t7 h,cC t10 h⟩
  clear hv hB hom ho hn' t0 t3 t6 t7 t10;obtain ⟨E2,hE2⟩:=qE (Nf.Kh (pl L) O c.no c.gen c.nm dn);obtain ⟨T2,hT2⟩:=qE (Nf.Kq (pl L) O c.no c.gen c.nm dn);rw [hE2,hT2];unfold Nf.Kh at hE2;unfold Nf.Kq at hT2;obtain ⟨E,hE⟩:=qE (Sp.vR (Sp.dW Sp.cZ) (pl L) c.no c.gen c.nm dn);obtain ⟨⟨qa,qb⟩,hq⟩:=qE (Sp.xJ (Sp.dW Sp.cZ) (pl L) c.no c.gen c.nm dn);obtain ⟨T,hT⟩:=qE (Sp.yQ (Sp.dW Sp.cZ) (pl L) c.no c.gen c.nm dn);rw [hE,hT,hq] at hE2 hT2 hn;have HNM:Hid (E = 0->names T qa qb = true):=hn;have HE2:Hid ((if E = 0 then Nf.I5 T O (qa,qb) else E) = E2):=hE2;have HC:Hid (∀ V,Bw W V->Calls Tryz.prog 165 #[.slice ao n cap,.agg #[.int .i64 c.no,.int .i64 c.gen],.string c.nm,.int .i64 dn] V λe w'=>∃ p m q L',e = .returned (.tuple #[.slice p m q,.agg #[.int .i64 qa,.int .i64 qb],.int .i64 E])/\(cD (λb=>V.heap.size<=b) w' (.slice p m q) L'/\pl L' = T)/\Bw V w'):=λV h=>by
    refine (yZ jd eQ _ L c.no c.gen c.nm dn V (HV.out.up h) eE hs).mono ?_;rintro e w' ⟨u,L',h1,h2,h3,h4⟩;rw [hE,hq] at h1;rw [hT] at h3;obtain ⟨p4,z4,hu,-,-⟩:=h2.open;subst hu;exact ⟨p4,L'.length,z4,L',h1,⟨h2,h3⟩,h4⟩
  obtain ⟨T0,hT0⟩:=qE (pl L);rw [hT0] at hT2 |-;have HT2:Hid ((if E = 0 then Nf.GF T O (qa,qb) else T0) = T2):=hT2;clear hE hq hT hE2 hT2 hn eE hs hT0;go_enter Tryz.func136,Tryz.ntmps136;go_wp2_with fail;rw [<-hW];clear hW;have HB01:Hid (Bw W (W.alloc (BH 0 0))):=qG _ _;have HB02:Hid (Bw W (W.drew.alloc (BH 0 0))):=(cX (MJ _ _)).alloc (MI _) _;apply lM
  · intro hK
    go_region_held3 (λV=>V.cell? ⟨B,0,none⟩ = some (.slice ao n cap)/\V.cell? ⟨B,3,none⟩ = some (.int .i64 dn)/\V.cell? ⟨B,6,none⟩ = some (.int .i64 c.no)/\V.cell? ⟨B,7,none⟩ = some (.int .i64 c.gen)/\V.cell? ⟨B,10,none⟩ = some (.string c.nm)) (first | exact HSG.out _ (by (repeat (first | with_reducible assumption | with_reducible exact MJ _ _ | with_reducible refine cX ?_ | with_reducible refine MP ?_ (by first | exact MI _ | assumption) _ | with_reducible refine Nr ?_ (by first | exact MI _ | assumption) _)))) (first
      | (go_at_call 165; refine (HC.out _ (by first | exact MJ _ _ | exact cX (MJ _ _) | exact HB01.out | exact HB02.out | exact cX HB01.out)).mono ?_; rintro e w5 ⟨p, m, q, L1, rfl, ht5, hb5⟩; have HT5 : Hid (pl L1 = T) := ht5.2; have hb55 : Bw W w5 := (by first | exact hb5 | exact dH hb5 | exact HB02.out.trans (hb5.mono HB02.out.size) | exact HB01.out.trans ((dH hb5).mono HB01.out.size) | exact HB01.out.trans (hb5.mono HB01.out.size)); have h5s : W.heap.size ≤ w5.heap.size := hb55.size; (first
        | (have hz5:w5.heap[W.heap.size]? = some (BH 0 0):=(by first | exact (hb5.block _ (by simp)).trans (MD W.drew _) | exact (hb5.block _ (by show _ < Array.size _;simp)).trans (MD W _));have f0:=cJ hz5 0;have f1:=cJ hz5 1;have ff:=dw hz5;have HZ5:Hid (w5.heap[W.heap.size]? = some (BH 0 0)):=hz5;have HTB:Hid (cD (λb=>W.heap.size < b) w5 (.slice p m q) L1):=ht5.1.imp (λb hb _=>by simp at hb;omega);clear ht5;clear hz5)
        | (have HTB:Hid (cD (λb=>W.heap.size<=b) w5 (.slice p m q) L1):=ht5.1.imp (λb hb _=>by first | exact hb | (simp at hb;omega));clear ht5));clear hb5))
    all_goals first
      | (obtain ⟨Y, hY⟩ : ∃ Y, Y = w5.alloc (BH qa qb) := ⟨_, rfl⟩
         rw [<-hY];have hYB:Bw W Y:=by rw [hY];exact hb55.alloc hb55.size _
         obtain ⟨A,hA⟩:=qF w5.heap.size;have hYX:Y.heap[A]? = some (BH qa qb):=by rw [hY,hA];exact MD _ _
         have hAw:W.heap.size<=A:=by rw [hA];exact h5s
         have hYT:cD (λb=>w.heap.size < b) Y (.slice p m q) L1:=by rw [hY];exact (HTB.out.imp (λb hb _=>M6 hwW hb)).up (qG _ _)
         rw [<-hA];clear hA hY)
      | (obtain ⟨Y, hY⟩ : ∃ Y, Y = ((w5.setCell ⟨W.heap.size, 0, none⟩ (.int .i64 qa)).setCell ⟨W.heap.size, 1, none⟩ (.int .i64 qb)) := ⟨_, rfl⟩
         rw [<-hY];have hYe:Y = w5.setCells W.heap.size 0 ([.int .i64 qa,.int .i64 qb]):=hY;have hYB:Bw W Y:=by rw [hYe];exact da (MI _) _ _ _ hb55
         obtain ⟨A,hA⟩:=qF W.heap.size;have hYX:Y.heap[A]? = some (BH qa qb):=by rw [hYe,hA];exact dO ([.int .i64 qa,.int .i64 qb]) HZ5.out rfl
         have hAw:W.heap.size<=A:=by rw [hA];exact MI _
         have hYT:cD (λb=>w.heap.size < b) Y (.slice p m q) L1:=by rw [hYe];exact (df (λh=>Nat.lt_irrefl _ h) _ _ _ HTB.out).imp (λb hb _=>Nat.lt_trans hwW hb)
         rw [<-hA];clear hA hY hYe f0 f1 ff HZ5)
    all_goals
      have HR:Hid (Bw W Y/\Y.heap[A]? = some (BH qa qb)/\W.heap.size<=A/\cD (λb=>w.heap.size < b) Y (.slice p m q) L1/\pl L1 = T):=⟨hYB,hYX,hAw,hYT,HT5.out⟩;clear hYB hYX hAw hYT HT5 HTB;revert HR;revert A Y L1 q m p;exact hK.out
  intro p m q L1 Y A HR;clear HSG HB01 HB02 HC;have HBY:Hid (Bw w Y):=HB0.out.trans (HR.out.1.mono HB0.out.size);have HZ:Hid (Y.heap[w.heap.size]? = some fJ):=(HR.out.1.block _ hwW).trans HA0.out;have HTY:Hid (Y.heap[B]? = some (gj (.slice ao n cap) (.slice oo om oc) (.slice sp sn sc) dn cl c)):=(HR.out.1.block _ hBW).trans HT0.out;have HVY:Hid (cD (λb=>w.heap.size < b) Y (.slice p m q) L1/\pl L1 = T):=HR.out.2.2.2;have HOY:Hid (At Os.EO S Y (.slice oo om oc) O):=HO.out.up HR.out.1;have hzl:=(MH.1 HZ.out).1;have hAl:=(MH.1 HR.out.2.1).1;have hAne:w.heap.size≠A:=by have:=HR.out.2.2.1;omega
  have hAB:A≠B:=by have:=HR.out.2.2.1;omega
  have HXA:Hid (Y.heap[A]? = some (BH qa qb)):=HR.out.2.1;clear HR HA0 HT0 HV HO
  by_cases h0:E = 0
  · subst h0
    have hN:=HNM.out rfl;have hE2:=HE2.out;have hT2:=HT2.out;rw [MC rfl] at hE2 hT2;obtain ⟨Z,hZ⟩:=qF (Y.setCell ⟨B,0,none⟩ (.slice p m q));have HTZ:Hid (Z.heap[B]? = some (gj (.slice p m q) (.slice oo om oc) (.slice sp sn sc) dn cl c)):=by show Z.heap[B]? = _;rw [hZ];exact ij HTY.out 0 _
    have HOZ:Hid (At Os.EO S Z (.slice oo om oc) O):=by show At _ _ Z _ _;rw [hZ];exact HOY.out.setCell (p:=⟨B,0,none⟩) rZ _
    have HVZ:Hid (cD (λb=>w.heap.size < b) Z (.slice p m q) L1):=by show cD _ Z _ _;rw [hZ];exact Al HVY.out.1 (by show ¬ w.heap.size < B;omega) _
    have HZZ:Hid (Z.heap[w.heap.size]? = some fJ):=by show Z.heap[w.heap.size]? = _;rw [hZ];exact (MM _ _ _ _ (by show w.heap.size≠B;omega)).trans HZ.out
    have HXZ:Hid (Z.heap[A]? = some (BH qa qb)):=by show Z.heap[A]? = _;rw [hZ];exact (MM _ _ _ _ (by show A≠B;exact hAB)).trans HXA.out
    have HGZ:Hid (w.grownBy Z (some B)):=by show w.grownBy Z (some B);rw [hZ];exact eN (cP HBY.out _) (.inr rfl) _
    have hzlZ:=(MH.1 HZZ.out).1;have HCR:Hid (Calls Tryz.prog 166 #[.pointer (some ⟨B,0,none⟩),.agg #[.int .i64 qa,.int .i64 qb]] Z λe w'=>∃ u,e = .returned (iM E2)/\w'.heap[B]? = some (gj u (.slice oo om oc) (.slice sp sn sc) dn cl c)/\Nf.vJ (Z.heap.size + 1) w' (.slice p m q) u T T2/\Z.grownBy w' (some B)):=by
      have h1:=qT (.slice p m q) (.slice oo om oc) sp sn sc dn cl c L1 B qa qb Z HTZ.out HVZ.out O HOZ.out.wide (by rw [HVY.out.2];exact hN);rw [HVY.out.2,hE2,hT2] at h1;exact h1
    obtain ⟨⟨a0,a1⟩,_⟩:=cU HXA.out;obtain ⟨t0,-,-,-,-,-,-,-,-,-,-,-,-,-,-⟩:=gh HTY.out;have tf:=zP HTY.out 0;have HXB:Hid (∃ a0:Z.cell? ⟨A,0,none⟩ = some (.int .i64 qa),Z.cell? ⟨A,1,none⟩ = some (.int .i64 qb)):=by
      obtain ⟨⟨b0,b1⟩,_⟩:=cU HXZ.out;exact ⟨b0,b1⟩
    clear hE2 hT2 HE2 HT2 HNM hN HXZ;go_wp2_with fail;rw [<-hZ];clear hZ t0 tf a0 a1;refine HCR.out.mono ?_;rintro e w7 ⟨u,rfl,hB7,hN7,hg7⟩;have HB7:Hid (w7.heap[B]? = some (gj u (.slice oo om oc) (.slice sp sn sc) dn cl c)):=hB7;have HN7:Hid (Nf.vJ (w.heap.size + 1) w7 (.slice ao n cap) u T0 T2):=by
      rcases hN7 with ⟨h1,h2⟩ | ⟨L',h1,h2⟩
      · refine .inr ⟨L1, ?_, HVY.out.2.trans h2.symm⟩
        rw [h1];exact (fL HVZ.out hg7 (by show ¬ w.heap.size < B;omega)).imp λb hb _=>hb
      · exact .inr ⟨L',h1.more (by omega),h2⟩
    have HG7:Hid (w.grownBy w7 (some B)):=cQ HGZ.out hg7;have HZ7:Hid (w7.1[w.1.size]?=some fJ):=(hg7.block _ hzlZ (by simp;omega)).trans HZZ.out;obtain ⟨g0,g1,g2,g3,g4,g5,g6,g7,g8,g9⟩:=ev HZ7.out;have gg:=dw HZ7.out;clear hB7 hN7 hg7 HCR;go_wp2
    (try simp only [Exit.inBlock,Exit.then])
    refine MK (v:=iM E2) ?_ rfl ⟨u,rfl,?_,?_,?_⟩
    · rw [cN rfl]
      go_simp
    · repeat (with_reducible refine (MM _ _ _ _ (show B ≠ w.heap.size from hBne)).trans ?_)
      exact HB7.out
    · exact HN7.out.cells (A:=w.heap.size) (Nat.lt_succ_self _) (cV E2 0 0 0 0 0 0) 0
    · repeat (with_reducible refine eN ?_ (.inl (MI w.heap.size)) _)
      exact HG7.out
  · have hE2 := HE2.out
    have hT2:=HT2.out;rw [ME h0] at hE2 hT2;subst hE2;subst hT2;have hz:(E != 0) = true:=by simpa using h0
    have HE:Hid (E≠0):=h0;clear HE2 HT2 HNM;go_wp2_with fail;refine (eV E _).mono ?_;rintro e w7 ⟨rfl,hb7⟩;have HB7:Hid (w.grownBy w7 (some B)/\w7.heap[B]? = some (gj (.slice ao n cap) (.slice oo om oc) (.slice sp sn sc) dn cl c)):=⟨cP (HBY.out.trans (hb7.mono HBY.out.size)) _,(hb7.block _ (MH.1 HTY.out).1).trans HTY.out⟩;have HZ7:=qK hb7 HZ;obtain ⟨g0,g1,g2,g3,g4,g5,g6,g7,g8,g9⟩:=ev HZ7.out;have gg:=dw HZ7.out;clear hb7;go_wp2
    (try simp only [Exit.inBlock,Exit.then])
    refine MK (v:=iM E) ?_ rfl ⟨.slice ao n cap,rfl,?_,.inl ⟨rfl,rfl⟩,?_⟩
    · rw [cN rfl]
      go_simp
    · repeat (with_reducible refine (MM _ _ _ _ (show B ≠ w.heap.size from hBne)).trans ?_)
      exact HB7.out.2
    · repeat (with_reducible refine eN ?_ (.inl (MI w.heap.size)) _)
      exact HB7.out.1
end
section
open Go
namespace Fst
section
variable {P:Program} {ops:Array Oper} {Q:Exit->Act->World->Prop} {md:Region.Mode} {S:World->Prop} {late:Nat->Bool}
def Sl (late:Nat->Bool) (S:World->Prop) (l:Array Bool) (w:World):Prop:=(∃ k,late k=true/\l.getD k false=true)\/S w
def jJ (P:Program) (md:Region.Mode) (ops:Array Oper) (Q:Exit->Act->World->Prop) (late:Nat->Bool) (S:World->Prop):Nat->Array Bool->Act->World->Prop
 | 0,l,a,w=>Region.ready md ops l=[]/\Q .normal a w
 | n+1,l,a,w=>(Region.ready md ops l=[]->Q .normal a w)/\∀ i∈Region.ready md ops l,wpOp P ops Q i (λa' w'=>Sl late S (l.setIfInBounds i true) w'/\jJ P md ops Q late S n (l.setIfInBounds i true) a' w') a w
theorem iu:∀ (n:Nat) (l:Array Bool) (a:Act) (w:World),jJ P md ops Q late S n l a w->wpAny P md ops Q n l a w
 | 0,_,_,_,h=>h
 | n+1,_,_,_,h=>⟨h.1,λi hi=>wpOp_mono (λa' w' h'=>iu n _ a' w' h'.2) (h.2 i hi)⟩
theorem yV {l:Array Bool}{i:Nat}(h:l.getD i true=false):l.getD i false=false:=by
 rcases Ow i l.size with a | a
 ·simp[a]at h |-;exact h
 ·simp[Array.getElem?_eq_none a]at h
theorem first {i:Nat}{oi:Oper}{v:Value}(hi:ops[i]?=some oi)(hsel:∀ (j:Nat)(o:Oper) cs b,ops[j]?=some o->o.op≠.select cs b)(hQ:∀ c a w,Q (.panic c) (a.put oi.dst v) w->Q (.panic c) a w)(hli:late i=false)(hw:∀ j oj,ops[j]?=some oj->late j=true->∃ e∈oj.after,Region.binds md e=true/\(e.on=i\/late e.on=true)) :
  ∀ (n:Nat) (l:Array Bool) (a:Act) (w:World),
   (∀ j oj,ops[j]?=some oj->j≠i->l.getD j true=false->(∀ e∈oj.after,Region.binds md e=true->e.on≠i)->oi.apart ops oj=true) ->
   i∈Region.ready md ops l->(∀ k,late k=true->l.getD k false=false)->YieldsIf P ops S oi v a->S w ->
   jJ P md ops Q late S n (l.setIfInBounds i true) (a.put oi.dst v) w->jJ P md ops Q late S (n+1) l a w:=by
 intro n
 induction n with
 | zero =>
  intro l a w _ s _ I B H;refine⟨λh=>(by rw[h]at s;cases s),λj L=>?_⟩
  by_cases hji:j=i
  ·subst hji;exact I.wpOp hi B ⟨.inr B,H⟩
  ·have:=ready_mono L hji;rw[H.1]at this
   cases this
 | succ n ih =>
  intro l a w d s t I B H;refine⟨λh=>(by rw[h]at s;cases s),λj L=>?_⟩
  by_cases hji:j=i
  ·subst hji;exact I.wpOp hi B ⟨.inr B,H⟩
  ·have F:=H.2 j (ready_mono L hji);obtain⟨q,oj,m,r⟩:=mem_ready.1 L;have u:=yV (mem_ready.1 s).1;have p:∀ e∈oj.after,Region.binds md e=true->e.on≠i:=λe J K O=>by
    have F:=r e J K;rw[O,u]at F
    cases F
   have x:late j=false:=by
    cases h:late j with
    | false=>rfl
    | true =>
     obtain⟨e,J,K,z | z⟩:=hw j oj m h
     ·exact absurd z (p e J K)
     ·have G:=r e J K;rw[t _ z]at G
      cases G
   have y:∀ k,late k=true->(l.setIfInBounds j true).getD k false=false:=λk f=>by
    rw[getD_set_ne false (λe=>by subst e;rw[x]at f;cases f)];exact t k f
   have z:=wpOp_putIf (S:=S) m (d j oj m hji q p) (λcs b=>hsel i oi cs b hi) (λcs b=>hsel j oj cs b m) hQ I F;have g:∀ k D,ops[k]?=some D->k≠i->(l.setIfInBounds j true).getD k true=false ->
     (∀ e∈D.after,Region.binds md e=true->e.on≠i)->oi.apart ops D=true:=λk D f R E V=>by
    refine d k D f R ?_ V
    by_cases hjk:j=k
    ·subst hjk;exact q
    ·rw[getD_set_ne true hjk]at E;exact E
   refine wpOp_mono (λW T G=>?_) z;obtain⟨M,N,U⟩:=G;have A:S T:=by
    rcases N with⟨k,f,C⟩ | h
    ·rw[getD_set_ne false (λe=>by subst e;rw[x]at f;cases f),getD_set_ne false (λe=>by subst e;rw[hli]at f;cases f),t k f]at C
     cases C
    ·exact h
   refine⟨.inr A,ih (l.setIfInBounds j true) W T g (ready_mono s (Ne.symm hji)) y M A ?_⟩;rw[Pj _ _ hji];exact U
theorem GL:∀ (n:Nat) (l:Array Bool) (a:Act) (w:World),(∀ j∈List.range ops.size,l.getD j true=false->late j=true)->wpAny P md ops Q n l a w->jJ P md ops Q late S n l a w
 | 0,_,_,_,_,h=>h
 | n+1,l,_,_,hl,h => ⟨h.1,λi hi => wpOp_mono (λa' w' h' => by
  obtain⟨hun,o,ho,-⟩:=mem_ready.1 hi;have hlt:=(qL ho);have hll:i<l.size:=by
   rcases Ow i l.size with h' | h'
   ·exact h'
   ·simp[Array.getElem?_eq_none h']at hun
  refine⟨.inl ⟨i,hl i (O8.2 hlt) hun,by simp[hll]⟩,GL n _ a' w' (λj c b=>hl j c ?_) h'⟩
  by_cases hij:i=j
  ·subst hij;exact hun
  ·rw[getD_set_ne true hij]at b;exact b) (h.2 i hi)⟩
def A8 (md:Region.Mode) (ops:Array Oper) (ls:List Nat) (i:Nat):Bool:=!ls.contains i&&(List.range ops.size).all λj=>!ls.contains j||match ops[j]? with
 | some o=>o.after.any λe=>Region.binds md e&&(e.on==i||ls.contains e.on)
 | none=>true
theorem take {ls:List Nat}{i:Nat}{oi:Oper}{v:Value}{n:Nat}{l:Array Bool}{a:Act}{w:World}(hi:ops[i]?=some oi)(hs:Region.noSelect ops=true)(hf:Region.free md ops l i=true)(hr:(Region.ready md ops l).contains i=true)(hb:A8 md ops ls i=true)(hn:(ls.all λk=>!l.getD k false)=true)(hQ:∀ c a w,Q (.panic c) (a.put oi.dst v) w->Q (.panic c) a w)(hy:YieldsIf P ops S oi v a)(hS:S w)(h:jJ P md ops Q (λk=>ls.contains k) S n (l.setIfInBounds i true) (a.put oi.dst v) w):jJ P md ops Q (λk=>ls.contains k) S (n+1) l a w:=by
 unfold A8 at hb;rw[MR]at hb;refine first hi (Region.noSelect_spec hs) hQ (by simpa using hb.1) (λj p f m=>?_) n l a w (Region.free_spec hi hf) (by simpa using hr) (λk o=>?_) hy hS h
 ·have b:=Ok.1 hb.2 j (O8.2 (qL f));rw[show ls.contains j=true from m,f]at b;simp only[Bool.not_true,Bool.false_or]at b;obtain⟨e,g,d⟩:=Array.any_eq_true'.1 b;simp only[Bool.and_eq_true,Bool.or_eq_true,beq_iff_eq]at d;exact⟨e,g,d.1,d.2⟩
 ·have b:=Ok.1 hn k (by simpa using o);simpa using b
theorem tk {ls:List Nat}{i:Nat}{oi:Oper}{v:Value}{n:Nat}{l:Array Bool}{a:Act}{w:World}(hi:ops[i]?=some oi)(hy:YieldsIf P ops S oi v a)(hS:S w)(h:jJ P md ops Q (λk=>ls.contains k) S n (l.setIfInBounds i true) (a.put oi.dst v) w)(hb:(Region.noSelect ops&&(Region.free md ops l i&&((Region.ready md ops l).contains i&&(A8 md ops ls i&&(ls.all λk=>!l.getD k false)))))=true:=by kernel_rfl)(hQ:∀ c a w,Q (.panic c) (a.put oi.dst v) w->Q (.panic c) a w:=by exact λ_ _ _ h=>h):jJ P md ops Q (λk=>ls.contains k) S (n+1) l a w:=by
 simp only[Bool.and_eq_true]at hb;exact take hi hb.1 hb.2.1 hb.2.2.1 hb.2.2.2.1 hb.2.2.2.2 hQ hy hS h
theorem rest {ls:List Nat}{n:Nat}{l:Array Bool}{a:Act}{w:World}(hb:((List.range ops.size).all λj=>l.getD j true||ls.contains j)=true)(h:wpAny P md ops Q n l a w):jJ P md ops Q (λk=>ls.contains k) S n l a w :=
 GL n l a w (λj c d=>by
  have b:=Ok.1 hb j c;rw[d,Bool.false_or]at b;exact b) h
theorem CE:∀ (n:Nat) (l:Array Bool) (a:Act) (w:World),(∃ k,late k=true/\l.getD k false=true)->wpAny P md ops Q n l a w->jJ P md ops Q late S n l a w
 | 0,_,_,_,_,h=>h
 | n+1,_,_,_,⟨k,hk,hk2⟩,h=>⟨h.1,λi hi=>wpOp_mono (λa' w' h'=>⟨.inl ⟨k,hk,getD_set_true hk2⟩,CE n _ a' w' ⟨k,hk,getD_set_true hk2⟩ h'⟩) (h.2 i hi)⟩
theorem two {ls:List Nat}{i j:Nat}{oi oj:Oper}{n:Nat}{l:Array Bool}{a:Act}{w:World}(hr:Region.ready md ops l=[i,j])(hi:ops[i]?=some oi)(hj:ops[j]?=some oj)(hl:(ls.contains i&&(l.setIfInBounds i true).getD i false)=true)(h1:∀ K':Act->World->Prop,(∀ a w,wpAny P md ops Q n (l.setIfInBounds i true) a w->K' a w)->if Region.wanted oi (yielded ops a.tmps)=true then Oper.wp P oi a w K' Q else K' (a.put oi.dst undef) w)(h2:∀ K':Act->World->Prop,(∀ a w,S w->jJ P md ops Q (λk=>ls.contains k) S n (l.setIfInBounds j true) a w->K' a w)->if Region.wanted oj (yielded ops a.tmps)=true then Oper.wp P oj a w K' Q else K' (a.put oj.dst undef) w):jJ P md ops Q (λk=>ls.contains k) S (n+1) l a w:=by
 rw[MR]at hl;refine⟨λh=>(by rw[hr]at h;cases h),λk b=>?_⟩;rw[hr]at b;rcases Ni.1 b with rfl | b
 ·exact wpOp_mono (λd c h=>⟨.inl ⟨k,hl⟩,CE n _ d c ⟨k,hl⟩ h⟩) (wpOp_step hi h1)
 ·rcases Ni.1 b with rfl | b
  ·have:=h2 (λd c=>Sl (λk=>ls.contains k) S (l.setIfInBounds k true) c/\jJ P md ops Q (λk=>ls.contains k) S n (l.setIfInBounds k true) d c) (λd c f h=>⟨.inr f,h⟩);unfold wpOp;simp only[hj];split
   ·rename_i hw;rw[MC hw]at this;exact .inl this
   ·rename_i hw;rw[ME hw]at this;exact this
  ·cases b
end
end Fst
end
end Go.Proofs.YtiifhfmekbhlnaaGreat
