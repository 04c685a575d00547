/- Part 13. -/
import Derived.Test.YtiifhfmekbhlnaaGreatH12
set_option maxHeartbeats 8000000
set_option maxRecDepth 100000
set_option linter.unusedSimpArgs false
namespace Go.Proofs.YtiifhfmekbhlnaaGreat
open ChangeShapes WideShapes ChangeAt RowKit Deep It
namespace Nf
noncomputable def J8 (L:List cL) (a b:Int) (s:ByteArray) (st:Int):List cL:=if Sp.yN (Sp.dW Sp.cZ) L a b s st=0 then Sp.D3 (Sp.dW Sp.cZ) L a b s st else L
end Nf
theorem BY {S:Nat->Prop}(vi vo vs)(dn cl)(c)(L:List Rw)(B:Nat)(w:World)(hB:w.1[B]?=some (gj vi vo vs dn cl c))(hv:cD S w vi L)(eE:Sp.m6 L)(hs:c.nm.size<=maxLen) :
  Calls Tryz.prog 137 #[.pointer (some ⟨B,0,none⟩)] w λe w'=>∃ u,e=.returned (iM (Sp.yN (Sp.dW Sp.cZ) (pl L) c.no c.gen c.nm dn))/\w'.1[B]?=some (gj u vo vs dn cl c)/\Nf.vJ (w.1.size+1) w' vi u (pl L) (Nf.J8 (pl L) c.no c.gen c.nm dn)/\w.grownBy w' (some B):=by
 have X:=(qL hB);obtain⟨W,R⟩:=qF (w.alloc fJ);have o:Hid _:=qB R;have y:Hid _:=qC R;have r:=qK o hB;have HV:=hH<|hv.up o;have Y:=(qL y);have Z:=(qL r);have z:B≠w.1.size:=qo
 obtain⟨x,d,I,-,-⟩:=hv.open;obtain⟨n,J⟩:=qE L.length;rw[J]at I;subst I;obtain⟨t0,-,-,t3,-,-,t6,t7,-,-,M,-,-,-,-⟩:=gh r;have C:Hid (∀ V:World,Bw W V->V.cell? ⟨B,0,none⟩=some (.slice x n d)/\V.cell? ⟨B,3,none⟩=some (.int .i64 dn)/\V.cell? ⟨B,6,none⟩=some (.int .i64 c.no)/\V.cell? ⟨B,7,none⟩=some (.int .i64 c.gen)/\V.cell? ⟨B,10,none⟩=some (.string c.nm)):=λV h=>⟨cC t0 h,cC t3 h,cC t6 h,cC t7 h,cC M h⟩
 clear hv hB J t0 t3 t6 t7 M;obtain⟨E,U⟩:=qE (Sp.yN (Sp.dW Sp.cZ) (pl L) c.no c.gen c.nm dn);obtain⟨T,j⟩:=qE (Sp.D3 (Sp.dW Sp.cZ) (pl L) c.no c.gen c.nm dn);obtain⟨T2,f⟩:=qE (Nf.J8 (pl L) c.no c.gen c.nm dn);rw[U,f];unfold Nf.J8 at f;rw[U,j]at f;have HC:Hid (∀ V,Bw W V->Calls Tryz.prog 167 #[.slice x n d,.agg #[.int .i64 c.no,.int .i64 c.gen],.string c.nm,.int .i64 dn] V λe w'=>∃ p m q s,e=.returned (.tuple #[.slice p m q,.int .i64 E])/\(cD (λb=>W.1.size<=b) w' (.slice p m q) s/\pl s=T)/\Bw V w'):=λV h=>by
  refine (A9 jd eQ _ L c.no c.gen c.nm dn V (HV.up h) eE hs).mono ?_;rintro e w' ⟨u,s,h1,h2,h3,h4⟩;rw[U]at h1;rw[j]at h3;obtain⟨p4,z4,hu,-,-⟩:=h2.open;subst hu;exact⟨p4,s.length,z4,s,h1,⟨h2.more h.size,h3⟩,h4⟩
 obtain⟨T0,N⟩:=qE (pl L);rw[N]at f |-;have aa:Hid _:=f;clear U j f eE hs N;go_enter Tryz.func137,Tryz.ntmps137;go_wp2_with fail;rw[<-R];clear R;refine NX qk ?_;change wpAny _ _ _ _ _ _ _ (World.drew _);refine qV (i:=0) rfl ?_
 try simp only[qS]
 refine qV (i:=1) rfl ?_
 try simp only[qS]
 refine qV (i:=2) rfl ?_
 try simp only[qS]
 refine qV (i:=3) rfl ?_
 try simp only[qS]
 refine qV (i:=4) rfl ?_
 try simp only[qS]
 refine qV (i:=6) rfl ?_
 try simp only[qS]
 refine qV (i:=7) rfl ?_
 try simp only[qS]
 refine qV (i:=8) rfl ?_
 try simp only[qS]
 refine qV (i:=9) rfl ?_
 try simp only[qS]
 refine qV (i:=11) rfl ?_
 try simp only[qS]
 refine qV (i:=12) rfl ?_
 try simp only[qS]
 refine qV (i:=13) rfl ?_
 try simp only[qS]
 refine qV (i:=14) rfl ?_
 try simp only[qS]
 refine qV (i:=16) rfl ?_
 try simp only[qS]
 refine qV (i:=17) rfl ?_
 try simp only[qS]
 refine qV (i:=18) rfl ?_
 try simp only[qS]
 refine qV (i:=19) rfl ?_
 try simp only[qS]
 have D:=C.out _ (cX (MJ _ _));refine Fst.iu (late:=λk=>[21,22,23,24,25].contains k) (S:=λV:World=>V.cell? ⟨B,0,none⟩=some (.slice x n d)/\V.cell? ⟨B,3,none⟩=some (.int .i64 dn)/\V.cell? ⟨B,6,none⟩=some (.int .i64 c.no)/\V.cell? ⟨B,7,none⟩=some (.int .i64 c.gen)/\V.cell? ⟨B,10,none⟩=some (.string c.nm)) _ _ _ _ ?_;refine Fst.tk (ls:=[21,22,23,24,25]) (i:=5) (v:=?v18) rfl (Or.inl ⟨by rfl,?h18⟩) D ?r18
 case h18=>(rintro V ⟨s0,s3,s6,s7,t⟩;go_simp;try with_reducible rfl)
 try simp only[qS]
 refine Fst.tk (ls:=[21,22,23,24,25]) (i:=10) (v:=?v19) rfl (Or.inl ⟨by rfl,?h19⟩) D ?r19
 case h19=>(rintro V ⟨s0,s3,s6,s7,t⟩;go_simp;try with_reducible rfl)
 try simp only[qS]
 refine Fst.tk (ls:=[21,22,23,24,25]) (i:=15) (v:=?v20) rfl (Or.inl ⟨by rfl,?h20⟩) D ?r20
 case h20=>(rintro V ⟨s0,s3,s6,s7,t⟩;go_simp;try with_reducible rfl)
 try simp only[qS]
 refine Fst.tk (ls:=[21,22,23,24,25]) (i:=20) (v:=?v21) rfl (Or.inl ⟨by rfl,?h21⟩) D ?r21
 case h21=>(rintro V ⟨s0,s3,s6,s7,t⟩;go_simp;try with_reducible rfl)
 try simp only[qS]
 refine Fst.rest qk ?_;refine Nc (rs:=[21]) qk qs ?_;refine M7 rfl (λK l=>?_) M9
 go_simp
 refine (HC _ (cX (MJ _ _))).mono ?_;rintro e w5 ⟨p,m,q,s,rfl,O,P⟩;have a:=dH P;have ab:=qK a r;have F:Hid _:=O;have ac:=qJ o a;have G:Hid _:=(a.block _ Y).trans y;clear P O a HC C D HV
 (try go_wp2_with fail)
 first | (refine l _ _ ?_;clear l K) | skip
 try simp only[qS]
 refine qV (i:=22) rfl ?_
 try simp only[qS]
 refine qV (i:=23) rfl ?_
 try simp only[qS]
 refine Nc (rs:=[24]) qk qs ?_;refine M7 rfl (λK l=>?_) M9
 go_simp
 refine (gD (.slice x n d) vo vs dn cl c B p m q E _ ab.out).mono ?_;rintro e w7 ⟨rfl,Q,g⟩;have H:Hid _:=(g.block _ (qL G) qt).trans G;obtain⟨g0,g1,g2,g3,g4,g5,g6,g7,g8,g9⟩:=ev H;have gg:=dw H;have ad:Hid _:=Q;have af:Hid _:=fL F.out.1 g (by show ¬ W.1.size<=B;omega);have ag:Hid _:=cQ (cP ac _) g;clear Q g
 (try go_wp2_with fail)
 first | (refine l _ _ ?_;clear l K) | skip
 try simp only[qS]
 refine Nc (rs:=[25]) qk qs ?_;refine M7 rfl (λK l=>?_) M9
 go_simp
 (try go_wp2_with fail)
 first | (refine l _ _ ?_;clear l K) | skip
 try simp only[qS]
 refine N1 qk ?_ _;go_wp2
 refine MK (v:=iM E) ?_ rfl ⟨if E=0 then .slice p m q else .slice x n d,rfl,?_,?_,?_⟩
 ·rw[cN rfl]
  go_simp
 ·repeat (with_reducible refine (MM _ _ _ _ (show B≠w.1.size from z)).trans ?_)
  exact ad
 ·have j:=aa.out
  by_cases hz:E=0
  ·rw[MC hz]at j |-;refine .inr ⟨s,?_,F.out.2.trans j⟩;refine cD.imp ?_ (S:=λb=>W.1.size<=b) (λb hb _=>by omega);exact df (A:=w.1.size) (S:=λb=>W.1.size<=b) (by show ¬ W.1.size<=w.1.size;omega) (cV E 0 0 0 0 0 0) 0 _ af
  ·rw[ME hz]at j |-;exact .inl ⟨rfl,j.symm⟩
 ·repeat (with_reducible refine eN ?_ (.inl (MI w.1.size)) _)
  exact ag
namespace Nf
noncomputable def vK (L:List cL) (a b:Int) (s:ByteArray) (c d:Int) (s2:ByteArray) (st:Int):List cL:=if Sp.yh (Sp.dW Sp.cZ) Sp.l7 L a b s c d s2 st=0 then Sp.vK (Sp.dW Sp.cZ) Sp.l7 L a b s c d s2 st else L
end Nf
theorem zD {S:Nat->Prop}(vi vo vs)(dn cl)(c)(L:List Rw)(B:Nat)(w:World)(hB:w.1[B]?=some (gj vi vo vs dn cl c))(hv:cD S w vi L)(eE:Sp.m6 L)(hs:c.nm.size<=maxLen)(xo:c.lV.size<=maxLen) :
  Calls Tryz.prog 138 #[.pointer (some ⟨B,0,none⟩)] w λe w'=>∃ u,e=.returned (iM (Sp.yh (Sp.dW Sp.cZ) Sp.l7 (pl L) c.no c.gen c.nm c.jz c.fm c.lV dn))/\w'.1[B]?=some (gj u vo vs dn cl c)/\Nf.vJ (w.1.size+1) w' vi u (pl L) (Nf.vK (pl L) c.no c.gen c.nm c.jz c.fm c.lV dn)/\w.grownBy w' (some B):=by
 have ad:=(qL hB);obtain⟨W,hW⟩:=qF (w.alloc fJ);have s:Hid _:=qB hW;have C:Hid _:=qC hW;have t:=qK s hB;have HV:=hH<|hv.up s;have af:=(qL C);have ag:=(qL t);have D:B≠w.1.size:=qo
 obtain⟨z,d,J,-,-⟩:=hv.open;obtain⟨n,M⟩:=qE L.length;rw[M]at J;subst J;obtain⟨t0,-,-,t3,-,-,t6,t7,t8,t9,N,O,-,-,-⟩:=gh t;have F:Hid (∀ V:World,Bw W V->V.cell? ⟨B,0,none⟩=some (.slice z n d)/\V.cell? ⟨B,3,none⟩=some (.int .i64 dn)/\V.cell? ⟨B,6,none⟩=some (.int .i64 c.no)/\V.cell? ⟨B,7,none⟩=some (.int .i64 c.gen)/\V.cell? ⟨B,10,none⟩=some (.string c.nm)/\V.cell? ⟨B,8,none⟩=some (.int .i64 c.jz)/\V.cell? ⟨B,9,none⟩=some (.int .i64 c.fm)/\V.cell? ⟨B,11,none⟩=some (.string c.lV)):=λV h=>⟨cC t0 h,cC t3 h,cC t6 h,cC t7 h,cC N h,cC t8 h,cC t9 h,cC O h⟩
 clear hv hB M t0 t3 t6 t7 N t8 t9 O;obtain⟨E,hE⟩:=qE (Sp.yh (Sp.dW Sp.cZ) Sp.l7 (pl L) c.no c.gen c.nm c.jz c.fm c.lV dn);obtain⟨T,o⟩:=qE (Sp.vK (Sp.dW Sp.cZ) Sp.l7 (pl L) c.no c.gen c.nm c.jz c.fm c.lV dn);obtain⟨T2,f⟩:=qE (Nf.vK (pl L) c.no c.gen c.nm c.jz c.fm c.lV dn);rw[hE,f];unfold Nf.vK at f;rw[hE,o]at f;have HC:Hid (∀ V,Bw W V->Calls Tryz.prog 168 #[.slice z n d,.agg #[.int .i64 c.no,.int .i64 c.gen],.string c.nm,.agg #[.int .i64 c.jz,.int .i64 c.fm],.string c.lV,.int .i64 dn] V λe w'=>∃ p m q y,e=.returned (.tuple #[.slice p m q,.int .i64 E])/\(cD (λb=>W.1.size<=b) w' (.slice p m q) y/\pl y=T)/\Bw V w'):=λV h=>by
  refine (AH jd eQ FA _ L c.no c.gen c.nm c.jz c.fm c.lV dn V (HV.up h) eE hs xo).mono ?_;rintro e w' ⟨u,y,h1,h2,h3,h4⟩;rw[hE]at h1;rw[o]at h3;obtain⟨p4,z4,hu,-,-⟩:=h2.open;subst hu;exact⟨p4,y.length,z4,y,h1,⟨h2.more h.size,h3⟩,h4⟩
 obtain⟨T0,P⟩:=qE (pl L);rw[P]at f |-;have ah:Hid _:=f;clear hE o f eE hs xo P;go_enter Tryz.func138,Tryz.ntmps138;go_wp2_with fail;rw[<-hW];clear hW;refine NX qk ?_;change wpAny _ _ _ _ _ _ _ (World.drew _);refine qV (i:=0) rfl ?_
 try simp only[qS]
 refine qV (i:=1) rfl ?_
 try simp only[qS]
 refine qV (i:=2) rfl ?_
 try simp only[qS]
 refine qV (i:=3) rfl ?_
 try simp only[qS]
 refine qV (i:=4) rfl ?_
 try simp only[qS]
 refine qV (i:=6) rfl ?_
 try simp only[qS]
 refine qV (i:=7) rfl ?_
 try simp only[qS]
 refine qV (i:=8) rfl ?_
 try simp only[qS]
 refine qV (i:=9) rfl ?_
 try simp only[qS]
 refine qV (i:=11) rfl ?_
 try simp only[qS]
 refine qV (i:=12) rfl ?_
 try simp only[qS]
 refine qV (i:=13) rfl ?_
 try simp only[qS]
 refine qV (i:=14) rfl ?_
 try simp only[qS]
 refine qV (i:=16) rfl ?_
 try simp only[qS]
 refine qV (i:=17) rfl ?_
 try simp only[qS]
 refine qV (i:=18) rfl ?_
 try simp only[qS]
 refine qV (i:=19) rfl ?_
 try simp only[qS]
 refine qV (i:=21) rfl ?_
 try simp only[qS]
 refine qV (i:=22) rfl ?_
 try simp only[qS]
 refine qV (i:=23) rfl ?_
 try simp only[qS]
 refine qV (i:=24) rfl ?_
 try simp only[qS]
 refine qV (i:=26) rfl ?_
 try simp only[qS]
 refine qV (i:=27) rfl ?_
 try simp only[qS]
 refine qV (i:=28) rfl ?_
 try simp only[qS]
 refine qV (i:=29) rfl ?_
 try simp only[qS]
 have x:=F.out _ (cX (MJ _ _));refine Fst.iu (late:=λk=>[31,32,33,34,35].contains k) (S:=λV:World=>V.cell? ⟨B,0,none⟩=some (.slice z n d)/\V.cell? ⟨B,3,none⟩=some (.int .i64 dn)/\V.cell? ⟨B,6,none⟩=some (.int .i64 c.no)/\V.cell? ⟨B,7,none⟩=some (.int .i64 c.gen)/\V.cell? ⟨B,10,none⟩=some (.string c.nm)/\V.cell? ⟨B,8,none⟩=some (.int .i64 c.jz)/\V.cell? ⟨B,9,none⟩=some (.int .i64 c.fm)/\V.cell? ⟨B,11,none⟩=some (.string c.lV)) _ _ _ _ ?_;refine Fst.tk (ls:=[31,32,33,34,35]) (i:=5) (v:=?v26) rfl (Or.inl ⟨by rfl,?h26⟩) x ?r26
 case h26=>(rintro V ⟨Q,R,U,X,g,Y,Z,j⟩;go_simp;try with_reducible rfl)
 try simp only[qS]
 refine Fst.tk (ls:=[31,32,33,34,35]) (i:=10) (v:=?v27) rfl (Or.inl ⟨by rfl,?h27⟩) x ?r27
 case h27=>(rintro V ⟨Q,R,U,X,g,Y,Z,j⟩;go_simp;try with_reducible rfl)
 try simp only[qS]
 refine Fst.tk (ls:=[31,32,33,34,35]) (i:=15) (v:=?v28) rfl (Or.inl ⟨by rfl,?h28⟩) x ?r28
 case h28=>(rintro V ⟨Q,R,U,X,g,Y,Z,j⟩;go_simp;try with_reducible rfl)
 try simp only[qS]
 refine Fst.tk (ls:=[31,32,33,34,35]) (i:=20) (v:=?v29) rfl (Or.inl ⟨by rfl,?h29⟩) x ?r29
 case h29=>(rintro V ⟨Q,R,U,X,g,Y,Z,j⟩;go_simp;try with_reducible rfl)
 try simp only[qS]
 refine Fst.tk (ls:=[31,32,33,34,35]) (i:=25) (v:=?v30) rfl (Or.inl ⟨by rfl,?h30⟩) x ?r30
 case h30=>(rintro V ⟨Q,R,U,X,g,Y,Z,j⟩;go_simp;try with_reducible rfl)
 try simp only[qS]
 refine Fst.tk (ls:=[31,32,33,34,35]) (i:=30) (v:=?v31) rfl (Or.inl ⟨by rfl,?h31⟩) x ?r31
 case h31=>(rintro V ⟨Q,R,U,X,g,Y,Z,j⟩;go_simp;try with_reducible rfl)
 try simp only[qS]
 refine Fst.rest qk ?_;refine Nc (rs:=[31]) qk qs ?_;refine M7 rfl (λK r=>?_) M9
 go_simp
 refine (HC _ (cX (MJ _ _))).mono ?_;rintro e w5 ⟨p,m,q,y,rfl,aa,ab⟩;have a:=dH ab;have ai:=qK a t;have G:Hid _:=aa;have aj:=qJ s a;have H:Hid _:=(a.block _ af).trans C;clear ab aa a HC F x HV
 (try go_wp2_with fail)
 first | (refine r _ _ ?_;clear r K) | skip
 try simp only[qS]
 refine qV (i:=32) rfl ?_
 try simp only[qS]
 refine qV (i:=33) rfl ?_
 try simp only[qS]
 refine Nc (rs:=[34]) qk qs ?_;refine M7 rfl (λK r=>?_) M9
 go_simp
 refine (gD (.slice z n d) vo vs dn cl c B p m q E _ ai.out).mono ?_;rintro e w7 ⟨rfl,ac,l⟩;have I:Hid _:=(l.block _ (qL H) qt).trans H;obtain⟨g0,g1,g2,g3,g4,g5,g6,g7,g8,g9⟩:=ev I;have gg:=dw I;have ak:Hid _:=ac;have al:Hid _:=fL G.out.1 l (by show ¬ W.1.size<=B;omega);have am:Hid _:=cQ (cP aj _) l;clear ac l
 (try go_wp2_with fail)
 first | (refine r _ _ ?_;clear r K) | skip
 try simp only[qS]
 refine Nc (rs:=[35]) qk qs ?_;refine M7 rfl (λK r=>?_) M9
 go_simp
 (try go_wp2_with fail)
 first | (refine r _ _ ?_;clear r K) | skip
 try simp only[qS]
 refine N1 qk ?_ _;go_wp2
 refine MK (v:=iM E) ?_ rfl ⟨if E=0 then .slice p m q else .slice z n d,rfl,?_,?_,?_⟩
 ·rw[cN rfl]
  go_simp
 ·repeat (with_reducible refine (MM _ _ _ _ (show B≠w.1.size from D)).trans ?_)
  exact ak
 ·have o:=ah.out
  by_cases hz:E=0
  ·rw[MC hz]at o |-;refine .inr ⟨y,?_,G.out.2.trans o⟩;refine cD.imp ?_ (S:=λb=>W.1.size<=b) (λb hb _=>by omega);exact df (A:=w.1.size) (S:=λb=>W.1.size<=b) (by show ¬ W.1.size<=w.1.size;omega) (cV E 0 0 0 0 0 0) 0 _ al
  ·rw[ME hz]at o |-;exact .inl ⟨rfl,o.symm⟩
 ·repeat (with_reducible refine eN ?_ (.inl (MI w.1.size)) _)
  exact am
namespace Nf
noncomputable def IA (L:List cL) (a b:Int) (x:cL):List cL:=if dM L a b x=0 then iJ L a b x else L
end Nf
theorem dq {A k:Nat}:∀ (vs:List Value) (o:Nat) (w:World),k≠A->(w.setCells A o vs).1[k]?=w.1[k]?
 | [],_,_,_=>rfl
 | _::vs,o,_,h=>(dq vs (o+1) _ h).trans (MM _ _ _ _ h)
theorem gZ {row:Option Nat}{A:Nat}{w:World}(hA:w.1.size<=A\/some A=row):∀ (vs:List Value) (o:Nat) (w':World),w.grownBy w' row->w.grownBy (w'.setCells A o vs) row
 | [],_,_,h=>h
 | _::vs,o,_,h=>gZ hA vs (o+1) _ (eN h hA _)
theorem zR {S T':Nat->Prop}(vi vo vs:Value)(dn cl:Int)(c:fw)(L:List Rw)(B:Nat)(x:Rw)(w:World)(hB:w.1[B]?=some (gj vi vo vs dn cl c))(hv:cD S w vi L)(hx:Good T' w x) :
  Calls Tryz.prog 161 #[.pointer (some ⟨B,0,none⟩),VI x] w λe w'=>∃ u,e=.returned (nr (dM (pl L) c.no c.gen x.i) 0 0 x.i.kind x.i.cH x.i.size x.i.cF ⟨#[]⟩ (.slice none 0 0) 0)/\w'.1[B]?=some (gj u vo vs dn cl c)/\Nf.vJ (w.1.size+1) w' vi u (pl L) (Nf.IA (pl L) c.no c.gen x.i)/\w.grownBy w' (some B):=by
 have ax:=(qL hB);obtain⟨W,hW⟩:=qF ((w.alloc (jC x)).alloc fJ);have U:=hH<|show Bw w W by rw[hW];exact (qG _ _).alloc (by simp) _
 have t:=hH<|show W.heap[w.heap.size]?=some (jC x) by rw[hW];exact (ML _ _ _ (by simp)).trans (MD _ _)
 have af:=hH<|show W.heap[w.heap.size+1]?=some fJ by rw[hW];have h:=MD (w.alloc (jC x)) fJ;simpa using h
 have ab:=qK U hB;have HV:=hH<|hv.up U.out;have HG:=hH<|hx.up U.out;have al:w.1.size+1<W.1.size:=(qL af.out);have am:w.1.size<W.1.size:=by omega
 have an:B<W.1.size:=(qL ab.out);obtain⟨ao,r,au,-,-⟩:=hv.open;obtain⟨n,av⟩:=qE L.length;rw[av]at au;subst au;have ah:Hid (∀ V:World,Bw W V->V.cell? ⟨B,0,none⟩=some (.slice ao n r)/\V.cell? ⟨B,6,none⟩=some (.int .i64 c.no)/\V.cell? ⟨B,7,none⟩=some (.int .i64 c.gen)/\V.cell? ⟨w.1.size,0,none⟩=some (.int .i64 x.i.gen)/\V.cell? ⟨w.1.size,1,none⟩=some (.int .i64 x.i.kind)/\V.cell? ⟨w.1.size,2,none⟩=some (.int .i64 x.i.cH)/\V.cell? ⟨w.1.size,3,none⟩=some (.int .i64 x.i.size)/\V.cell? ⟨w.1.size,4,none⟩=some (.int .i64 x.i.cF)/\V.cell? ⟨w.1.size,5,none⟩=some (.slice x.rp x.rn x.rc)/\V.cell? ⟨w.1.size,6,none⟩=some (.slice x.ep x.en x.ec)/\V.cell? ⟨w.1.size,7,none⟩=some (.int .i64 x.i.next)):=λV h=>by
  obtain⟨t0,-,-,-,-,-,t6,t7,-,-,-,-,-,-,-⟩:=gh ab.out;have k0:=cJ t.out 0;have k1:=cJ t.out 1;have k2:=cJ t.out 2;have k3:=cJ t.out 3;have k4:=cJ t.out 4;have k5:=cJ t.out 5;have k6:=cJ t.out 6;have k7:=cJ t.out 7;simp at k0 k1 k2 k3 k4 k5 k6 k7;exact⟨cC t0 h,cC t6 h,cC t7 h,cC k0 h,cC k1 h,cC k2 h,cC k3 h,cC k4 h,cC k5 h,cC k6 h,cC k7 h⟩
 clear hv hB av hx;obtain⟨E,hE⟩:=qE (dM (pl L) c.no c.gen x.i);obtain⟨T,hT⟩:=qE (iJ (pl L) c.no c.gen x.i);obtain⟨T2,Z⟩:=qE (Nf.IA (pl L) c.no c.gen x.i);rw[hE,Z];unfold Nf.IA at Z;rw[hE,hT]at Z;have HC:Hid (∀ V,Bw W V->Calls Tryz.prog 182 #[.slice ao n r,.agg #[.int .i64 c.no,.int .i64 c.gen],VI x] V λe w'=>∃ p m q s,e=.returned (.tuple #[.slice p m q,.int .i64 E])/\(cD (λb=>V.1.size<=b) w' (.slice p m q) s/\pl s=T)/\Bw V w'):=λV h=>by
  refine (qh _ L c.no c.gen x V (HV.out.up h) (HG.out.up h)).mono ?_;rintro e w' ⟨u,s,h1,h2,h3,h4⟩;rw[hE]at h1;rw[hT]at h3;obtain⟨p4,z4,hu,-,-⟩:=h2.open;subst hu;exact⟨p4,s.length,z4,s,h1,⟨h2,h3⟩,h4⟩
 obtain⟨T0,aw⟩:=qE (pl L);rw[aw]at Z |-;have ay:Hid _:=Z;clear hE hT Z aw;go_enter Tryz.func161,Tryz.ntmps161;go_wp2_with fail;rw[<-hW];clear hW;apply lM
 ·intro ak;refine NX (by kernel_rfl) ?_;change wpAny _ _ _ _ _ _ _ (World.drew _);refine qV (i:=0) rfl ?_
  try simp only[qS]
  refine qV (i:=1) rfl ?_
  try simp only[qS]
  refine qV (i:=2) rfl ?_
  try simp only[qS]
  refine qV (i:=3) rfl ?_
  try simp only[qS]
  refine qV (i:=4) rfl ?_
  try simp only[qS]
  refine qV (i:=6) rfl ?_
  try simp only[qS]
  refine qV (i:=7) rfl ?_
  try simp only[qS]
  refine qV (i:=8) rfl ?_
  try simp only[qS]
  refine qV (i:=9) rfl ?_
  try simp only[qS]
  have HS:(λV:World=>V.cell? ⟨B,0,none⟩=some (.slice ao n r)/\V.cell? ⟨B,6,none⟩=some (.int .i64 c.no)/\V.cell? ⟨B,7,none⟩=some (.int .i64 c.gen)/\V.cell? ⟨w.1.size,0,none⟩=some (.int .i64 x.i.gen)/\V.cell? ⟨w.1.size,1,none⟩=some (.int .i64 x.i.kind)/\V.cell? ⟨w.1.size,2,none⟩=some (.int .i64 x.i.cH)/\V.cell? ⟨w.1.size,3,none⟩=some (.int .i64 x.i.size)/\V.cell? ⟨w.1.size,4,none⟩=some (.int .i64 x.i.cF)/\V.cell? ⟨w.1.size,5,none⟩=some (.slice x.rp x.rn x.rc)/\V.cell? ⟨w.1.size,6,none⟩=some (.slice x.ep x.en x.ec)/\V.cell? ⟨w.1.size,7,none⟩=some (.int .i64 x.i.next)) W.drew:=ah.out _ (cX (MJ _ _));refine Fst.iu (late:=λk=>[12,13,14,15,17].contains k) (S:=λV:World=>V.cell? ⟨B,0,none⟩=some (.slice ao n r)/\V.cell? ⟨B,6,none⟩=some (.int .i64 c.no)/\V.cell? ⟨B,7,none⟩=some (.int .i64 c.gen)/\V.cell? ⟨w.1.size,0,none⟩=some (.int .i64 x.i.gen)/\V.cell? ⟨w.1.size,1,none⟩=some (.int .i64 x.i.kind)/\V.cell? ⟨w.1.size,2,none⟩=some (.int .i64 x.i.cH)/\V.cell? ⟨w.1.size,3,none⟩=some (.int .i64 x.i.size)/\V.cell? ⟨w.1.size,4,none⟩=some (.int .i64 x.i.cF)/\V.cell? ⟨w.1.size,5,none⟩=some (.slice x.rp x.rn x.rc)/\V.cell? ⟨w.1.size,6,none⟩=some (.slice x.ep x.en x.ec)/\V.cell? ⟨w.1.size,7,none⟩=some (.int .i64 x.i.next)) _ _ _ _ ?_;refine Fst.tk (ls:=[12,13,14,15,17]) (i:=5) (v:=?v10) rfl (Or.inl ⟨by rfl,?h10⟩) HS ?r10
  case h10=>(rintro V ⟨s0,s6,s7,x0,x1,x2,x3,x4,x5,x6,x7⟩;go_simp;try with_reducible rfl)
  try simp only[qS]
  refine Fst.tk (ls:=[12,13,14,15,17]) (i:=10) (v:=?v11) rfl (Or.inl ⟨by rfl,?h11⟩) HS ?r11
  case h11=>(rintro V ⟨s0,s6,s7,x0,x1,x2,x3,x4,x5,x6,x7⟩;go_simp;try with_reducible rfl)
  try simp only[qS]
  refine Fst.tk (ls:=[12,13,14,15,17]) (i:=11) (v:=?v12) rfl (Or.inl ⟨by rfl,?h12⟩) HS ?r12
  case h12=>(rintro V ⟨s0,s6,s7,x0,x1,x2,x3,x4,x5,x6,x7⟩;go_simp;try with_reducible rfl)
  try simp only[qS]
  refine Fst.two (ls:=[12,13,14,15,17]) (i:=12) (j:=16) (by kernel_rfl) rfl rfl (by kernel_rfl) (λK f=>?_) (λK f=>?_)
  ·go_simp
   refine (HC.out _ (cX (MJ _ _))).mono ?_;rintro e l ⟨p,m,q,s,rfl,R,aa⟩;have d:Bw W l:=dH aa;have J:=qK d ab;have M:Hid _:=R.2;have N:=qJ U d;have O:Hid _:=(d.block _ al).trans af;have P:Hid _:=(d.block _ am).trans t.out;have Q:=hH<|R.1.imp (λb hb _=>hb);have ag:W.1.size<=l.1.size:=d.size;clear aa R d HS
   (try go_wp2_with fail)
   first | (refine f _ _ ?_;clear f K) | skip
   try simp only[qS]
   refine qV (i:=13) rfl ?_
   try simp only[qS]
   refine qV (i:=14) rfl ?_
   try simp only[qS]
   refine Nc (rs:=[15,16]) (by kernel_rfl) (by simp) ?_;refine M7 rfl (λK f=>?_) (M7 rfl (λK f=>?_) M9)
   ·go_simp
    refine (gD (.slice ao n r) vo vs dn cl c B p m q E _ J.out).mono ?_;rintro e z ⟨rfl,I,a⟩;have C:Hid (z.1[B]?=some (gj (if E=0 then .slice p m q else .slice ao n r) vo vs dn cl c)):=I;have D:Hid (z.1[w.1.size]?=some (jC x)):=(a.block _ (by omega) (by simp;omega)).trans P.out;have F:=hH<|(a.block _ qo qt).trans O;have G:Hid (cD (λb=>W.1.size<=b) z (.slice p m q) s):=fL Q.out a (by show ¬ W.1.size<=B;omega);have H:Hid (w.grownBy z (some B)):=cQ (cP N.out _) a;have az:l.1.size<=z.1.size:=a.size;clear I a
    (try go_wp2_with fail)
    first | (refine f _ _ ?_;clear f K) | skip
    try simp only[qS]
    refine Nc (rs:=[16]) (by kernel_rfl) (by simp) ?_;refine M7 rfl (λK f=>?_) M9
    go_simp
    (try go_wp2_with fail)
    first | (refine f _ _ ?_;clear f K) | skip
    try simp only[qS]
    refine Nc (rs:=[17]) (by kernel_rfl) (by simp) ?_;refine M7 rfl (λK f=>?_) M9
    go_simp
    (try go_wp2_with fail)
    first | (refine f _ _ ?_;clear f K) | skip
    try simp only[qS]
    refine N1 (by kernel_rfl) ?_ _;obtain⟨Y,hY⟩:=qF (z.alloc (Gk E 0 0 0 0 0 0 ⟨#[]⟩ (.slice none 0 0) 0));rw[<-hY];obtain⟨A,hA⟩:=qF z.1.size;have X:Bw z Y:=by rw[hY];exact qG _ _
    have HR:Hid (Y.1[A]?=some (Gk E 0 0 0 0 0 0 ⟨#[]⟩ (.slice none 0 0) 0)/\Y.1[w.1.size]?=some (jC x)/\Y.1[w.1.size+1]?=some fJ/\W.1.size<=A/\Y.1[B]?=some (gj (if E=0 then .slice p m q else .slice ao n r) vo vs dn cl c)/\(cD (λb=>W.1.size<=b/\b≠A) Y (.slice p m q) s/\pl s=T)/\w.grownBy Y (some B)):=⟨by rw[hY,hA];exact MD _ _,(X.block _ (by omega)).trans D.out,(X.block _ (by omega)).trans F.out,by omega,(X.block _ (by omega)).trans C.out,⟨(G.out.imp (λb hb hl=>⟨hb,by omega⟩)).up X,M.out⟩,wN H.out X⟩;rw[<-hA];clear hA hY X C D F G H J M N O P Q ag az;revert HR;revert A Y s q m p;exact ak.out
   ·go_simp
    (try go_wp2_with fail)
    first | (refine f _ _ ?_;clear f K) | skip
    try simp only[qS]
    refine Nc (rs:=[15]) (by kernel_rfl) (by simp) ?_;refine M7 rfl (λK f=>?_) M9
    go_simp
    have o:Bw l (l.alloc fJ):=qG _ _;refine (gD (.slice ao n r) vo vs dn cl c B p m q E _ ((o.block _ (by omega)).trans J.out)).mono ?_;rintro e z ⟨rfl,I,a⟩;have aA:(l.alloc fJ).1.size=l.1.size+1:=by simp
    have C:Hid _:=I;have D:Hid _:=(a.block _ (by omega) (by simp;omega)).trans ((o.block _ (by omega)).trans P.out);have F:Hid _:=(a.block _ (by omega) (by simp;omega)).trans ((o.block _ (by omega)).trans O.out);have y:Hid _:=(a.block _ (by omega) (by simp;omega)).trans (MD _ _);have G:Hid (cD (λb=>W.1.size<=b/\b≠l.1.size) z (.slice p m q) s):=fL ((Q.out.imp (λb hb hl=>⟨hb,by omega⟩)).up o) a (by show ¬ (W.1.size<=B/\B≠l.1.size);omega);obtain⟨g0,g1,g2,g3,g4,g5,g6,g7,g8,g9⟩:=ev y.out;have gg:=dw y.out;have H:Hid _:=cQ (wN (cP N.out _) o) a;clear I a o aA
    (try go_wp2_with fail)
    first | (refine f _ _ ?_;clear f K) | skip
    try simp only[qS]
    refine Nc (rs:=[17]) (by kernel_rfl) (by simp) ?_;refine M7 rfl (λK f=>?_) M9
    go_simp
    (try go_wp2_with fail)
    first | (refine f _ _ ?_;clear f K) | skip
    try simp only[qS]
    refine N1 (by kernel_rfl) ?_ _;obtain⟨Y,hY⟩:=qF ((((((((((z.setCell ⟨l.1.size,0,none⟩ (.int .i64 E)).setCell ⟨l.1.size,1,none⟩ (.int .i64 0)).setCell ⟨l.1.size,2,none⟩ (.int .i64 0)).setCell ⟨l.1.size,3,none⟩ (.int .i64 0)).setCell ⟨l.1.size,4,none⟩ (.int .i64 0)).setCell ⟨l.1.size,5,none⟩ (.int .i64 0)).setCell ⟨l.1.size,6,none⟩ (.int .i64 0)).setCell ⟨l.1.size,7,none⟩ (.string ⟨#[]⟩)).setCell ⟨l.1.size,8,none⟩ (.slice none 0 0)).setCell ⟨l.1.size,9,none⟩ (.int .i64 0));rw[<-hY];obtain⟨A,hA⟩:=qF l.1.size;have g:Y=z.setCells A 0 (cV E 0 0 0 0 0 0):=by rw[hA];exact hY
    have ac:=hH<|show cD (λb=>W.heap.size<=b/\b≠A) z (.slice p m q) s by rw[hA];exact G.out
    rw[<-hA]at y |-;have ad:W.1.size<=A:=by omega
    have HR:Hid (Y.1[A]?=some (Gk E 0 0 0 0 0 0 ⟨#[]⟩ (.slice none 0 0) 0)/\Y.1[w.1.size]?=some (jC x)/\Y.1[w.1.size+1]?=some fJ/\W.1.size<=A/\Y.1[B]?=some (gj (if E=0 then .slice p m q else .slice ao n r) vo vs dn cl c)/\(cD (λb=>W.1.size<=b/\b≠A) Y (.slice p m q) s/\pl s=T)/\w.grownBy Y (some B)):=⟨by rw[g];exact dO (cV E 0 0 0 0 0 0) y.out rfl,by rw[g];exact (dq _ _ _ (by omega)).trans D.out,by rw[g];exact (dq _ _ _ (by omega)).trans F.out,ad,by rw[g];exact (dq _ _ _ (by omega)).trans C.out,⟨by rw[g];exact df (λh=>h.2 rfl) _ _ _ ac.out,M.out⟩,by rw[g];exact gZ (.inl (by omega)) _ _ _ H.out⟩;clear hA hY g ad ac C D F G H J M N O P y gg g0 g1 g2 g3 g4 g5 g6 g7 g8 g9 Q ag;revert HR;revert A Y s q m p;exact ak.out
  ·go_simp
   have o:Bw W (W.drew.alloc fJ):=(cX (MJ _ _)).alloc (MI _) _;refine f _ _ (ah.out _ o) ?_;clear f K
   try simp only[qS]
   refine Fst.rest (by kernel_rfl) ?_;refine Nc (rs:=[12]) (by kernel_rfl) (by simp) ?_;refine M7 rfl (λK f=>?_) M9
   go_simp
   refine (HC.out _ (o)).mono ?_;rintro e l ⟨p,m,q,s,rfl,R,aa⟩;have d:Bw W l:=o.trans (aa.mono o.size);have J:Hid _:=(d.block _ an).trans ab;have M:Hid _:=R.2;have N:=qJ U d;have O:Hid _:=(d.block _ al).trans af;have P:Hid _:=(d.block _ am).trans t;have ai:(W.drew.alloc fJ).1.size=W.1.size+1:=by simp
   have ap:cD (λb=>W.1.size+1<=b) l (.slice p m q) s:=R.1.imp (λb hb _=>by rw[ai]at hb;exact hb);have aj:l.1[W.1.size]?=some fJ:=(aa.block _ (by rw[ai];omega)).trans (MD W.drew _);have ag:W.1.size<l.1.size:=(qL aj);have Q:Hid _:=ap;have aq:Hid _:=aj;clear aa R d HS o ai ap aj
   (try go_wp2_with fail)
   first | (refine f _ _ ?_;clear f K) | skip
   try simp only[qS]
   refine qV (i:=13) rfl ?_
   try simp only[qS]
   refine qV (i:=14) rfl ?_
   try simp only[qS]
   refine Nc (rs:=[15]) (by kernel_rfl) (by simp) ?_;refine M7 rfl (λK f=>?_) M9
   go_simp
   refine (gD (.slice ao n r) vo vs dn cl c B p m q E _ J.out).mono ?_;rintro e z ⟨rfl,I,a⟩;have C:Hid _:=I;have D:Hid _:=(a.block _ (by omega) (by simp;omega)).trans (P.out);have F:Hid _:=(a.block _ (by omega) (by simp;omega)).trans (O.out);have y:Hid _:=(a.block _ qo qt).trans aq;have G:Hid (cD (λb=>W.1.size<=b/\b≠W.1.size) z (.slice p m q) s):=(fL Q.out a (by show ¬ W.1.size+1<=B;omega)).imp (λb hb _=>⟨by omega,by omega⟩);obtain⟨g0,g1,g2,g3,g4,g5,g6,g7,g8,g9⟩:=ev y.out;have gg:=dw y.out;have H:Hid _:=cQ (cP N.out _) a;clear I a
   (try go_wp2_with fail)
   first | (refine f _ _ ?_;clear f K) | skip
   try simp only[qS]
   refine Nc (rs:=[17]) (by kernel_rfl) (by simp) ?_;refine M7 rfl (λK f=>?_) M9
   go_simp
   (try go_wp2_with fail)
   first | (refine f _ _ ?_;clear f K) | skip
   try simp only[qS]
   refine N1 (by kernel_rfl) ?_ _;obtain⟨Y,hY⟩:=qF ((((((((((z.setCell ⟨W.1.size,0,none⟩ (.int .i64 E)).setCell ⟨W.1.size,1,none⟩ (.int .i64 0)).setCell ⟨W.1.size,2,none⟩ (.int .i64 0)).setCell ⟨W.1.size,3,none⟩ (.int .i64 0)).setCell ⟨W.1.size,4,none⟩ (.int .i64 0)).setCell ⟨W.1.size,5,none⟩ (.int .i64 0)).setCell ⟨W.1.size,6,none⟩ (.int .i64 0)).setCell ⟨W.1.size,7,none⟩ (.string ⟨#[]⟩)).setCell ⟨W.1.size,8,none⟩ (.slice none 0 0)).setCell ⟨W.1.size,9,none⟩ (.int .i64 0));rw[<-hY];obtain⟨A,hA⟩:=qF W.1.size;have g:Y=z.setCells A 0 (cV E 0 0 0 0 0 0):=by rw[hA];exact hY
   have ac:Hid (cD (λb=>W.1.size<=b/\b≠A) z (.slice p m q) s):=by show cD _ _ _ _;rw[hA];exact G.out
   rw[<-hA]at y |-;have ad:W.1.size<=A:=by omega
   have HR:Hid (Y.1[A]?=some (Gk E 0 0 0 0 0 0 ⟨#[]⟩ (.slice none 0 0) 0)/\Y.1[w.1.size]?=some (jC x)/\Y.1[w.1.size+1]?=some fJ/\W.1.size<=A/\Y.1[B]?=some (gj (if E=0 then .slice p m q else .slice ao n r) vo vs dn cl c)/\(cD (λb=>W.1.size<=b/\b≠A) Y (.slice p m q) s/\pl s=T)/\w.grownBy Y (some B)):=⟨by rw[g];exact dO (cV E 0 0 0 0 0 0) y.out rfl,by rw[g];exact (dq _ _ _ (by omega)).trans D.out,by rw[g];exact (dq _ _ _ (by omega)).trans F.out,ad,by rw[g];exact (dq _ _ _ (by omega)).trans C.out,⟨by rw[g];exact df (λh=>h.2 rfl) _ _ _ ac.out,M.out⟩,by rw[g];exact gZ (.inl (by omega)) _ _ _ H.out⟩;clear hA hY g ad ac C D F G H J M N O P y gg g0 g1 g2 g3 g4 g5 g6 g7 g8 g9 Q aq ag;revert HR;revert A Y s q m p;exact ak.out
 intro p m q s Y A HR;obtain⟨rA,rX,rR,aK,rB,rT,rG⟩:=HR.out;have aB:Hid _:=rB;have ar:Hid _:=rT;have aC:Hid _:=rG;clear ah HC HV HG ab af t HR rB rT rG U;have aF:A≠w.1.size:=by omega
 have aG:A≠w.1.size+1:=by omega
 have aH:w.1.size+1≠A:=by omega
 have aD:B≠A:=by omega
 have aE:B≠w.1.size+1:=by omega
 have aI:=(qL rA);have aJ:=(qL rR);obtain⟨g0,g1,g2,g3,g4,g5,g6,g7,g8,g9⟩:=ev rR;have gg:=dw rR;obtain⟨f0,f1,f2,f3,f4,f5,f6,f7,f8,f9⟩:=ev rA;have ff:=dw rA;have k1:=cJ rX 1;have k2:=cJ rX 2;have k3:=cJ rX 3;have k4:=cJ rX 4;simp at k1 k2 k3 k4;clear rA rX rR;go_wp2
 refine MK (v:=nr E 0 0 x.i.kind x.i.cH x.i.size x.i.cF ⟨#[]⟩ (.slice none 0 0) 0) ?_ rfl ⟨if E=0 then .slice p m q else .slice ao n r,rfl,?_,?_,?_⟩
 ·rw[cN rfl]
  go_simp
 ·repeat (with_reducible refine (MM _ _ _ _ (show B≠w.1.size+1 from aE)).trans ?_)
  repeat (with_reducible refine (MM _ _ _ _ (show B≠A from aD)).trans ?_)
  exact aB.out
 ·have hT:=ay.out
  by_cases hz:E=0
  ·rw[MC hz]at hT |-;refine .inr ⟨s,?_,ar.out.2.trans hT⟩;refine cD.imp ?_ (S:=λb=>W.1.size<=b/\b≠A) (λb hb _=>by omega);refine df (A:=w.1.size+1) (S:=λb=>W.1.size<=b/\b≠A) (by show ¬ (W.1.size<=w.1.size+1/\_);omega) (cV E 0 0 x.i.kind x.i.cH x.i.size x.i.cF) 0 _ ?_;exact df (A:=A) (S:=λb=>W.1.size<=b/\b≠A) (λh=>h.2 rfl) [.int .i64 x.i.kind,.int .i64 x.i.cH,.int .i64 x.i.size,.int .i64 x.i.cF] 3 _ ar.out.1
  ·rw[ME hz]at hT |-;exact .inl ⟨rfl,hT.symm⟩
 ·repeat (with_reducible refine eN ?_ (.inl (show w.1.size<=w.1.size+1 from Nat.le_succ _)) _)
  repeat (with_reducible refine eN ?_ (.inl (show w.1.size<=A by omega)) _)
  exact aC.out
namespace Nf
noncomputable def Fg (L:List cL) (c:fw) (dn:Int):Int:=Sp.ng (Sp.dW Sp.cZ) L c.no c.gen c.jz c.fm c.nm dn
noncomputable def Fe (L:List cL) (c:fw) (dn:Int):List cL:=if Fg L c dn=0 then Sp.lK (Sp.dW Sp.cZ) L c.no c.gen c.jz c.fm c.nm dn else L
end Nf
theorem Ku {L:List cL}{c:fw}{dn:Int}{L':List Rw}(h:Nf.Fg L c dn=0)(hp:pl L'=Sp.lK (Sp.dW Sp.cZ) L c.no c.gen c.jz c.fm c.nm dn):∃ (k:Nat) (y:Rw),c.no=(k:Int)/\L'[k]?=some y/\Nf.atR (pl L') c.no=y.i:=by
 unfold Nf.Fg at h;have j:Sp.ez (Sp.dW Sp.cZ) L c.no c.gen c.jz c.fm c.nm dn=0:=by
  by_cases hz:Sp.ez (Sp.dW Sp.cZ) L c.no c.gen c.jz c.fm c.nm dn=0
  ·exact hz
  ·unfold Sp.ng at h;rw[ME hz]at h;exact absurd h hz
 obtain⟨-,l,-,-,-⟩:=Sp.ku j;obtain⟨k,x,b,m,-,-,d,-⟩:=Sp.gL l;have a:=(qM m);have g:(pl L')[k]?=some (Sp.linked x 1 dn):=by
  rw[hp];unfold Sp.lK;rw[MC h,d,b,show ((k:Int)).toNat=k by omega,Ny (by simpa using a)]
 obtain⟨y,n,f⟩:=Sp.fF g;refine⟨k,y,b,n,?_⟩;unfold Nf.atR;rw[b,show ((k:Int)).toNat=k by omega,g,f];rfl
theorem Ej {S:Nat->Prop}(vi vo vs:Value)(dn cl:Int)(c:fw)(L:List Rw)(B:Nat)(w:World)(hB:w.1[B]?=some (gj vi vo vs dn cl c))(hv:cD S w vi L)(eE:Sp.m6 L)(hs:c.nm.size<=maxLen) :
  Calls Tryz.prog 135 #[.pointer (some ⟨B,0,none⟩)] w λe w'=>∃ u k l s t,e=.returned (nr (Nf.Fg (pl L) c dn) 0 0 k l s t ⟨#[]⟩ (.slice none 0 0) 0)/\w'.1[B]?=some (gj u vo vs dn cl c)/\Nf.vJ (w.1.size+1) w' vi u (pl L) (Nf.Fe (pl L) c dn)/\Nf.KO (Nf.Fg (pl L) c dn) (Nf.Fe (pl L) c dn) c.no (k,l,s,t)/\w.grownBy w' (some B):=by
 have aP:=(qL hB);obtain⟨W,hW⟩:=qF (w.alloc fJ);have ab:Hid _:=qB hW;have ai:Hid _:=qC hW;have ac:=hH<|(ab.block _ aP).trans hB;have HV:Hid (cD S W vi L):=hv.up ab.out;have aQ:w.1.size<W.1.size:=(qL ai.out);have ay:B<W.1.size:=(qL ac.out);have ap:B≠w.1.size:=by omega
 obtain⟨ao,x,aJ,-,-⟩:=hv.open;obtain⟨n,aK⟩:=qE L.length;rw[aK]at aJ;subst aJ;have aq:Hid (∀ V:World,Bw W V->V.cell? ⟨B,0,none⟩=some (.slice ao n x)/\V.cell? ⟨B,6,none⟩=some (.int .i64 c.no)/\V.cell? ⟨B,7,none⟩=some (.int .i64 c.gen)/\V.cell? ⟨B,8,none⟩=some (.int .i64 c.jz)/\V.cell? ⟨B,9,none⟩=some (.int .i64 c.fm)/\V.cell? ⟨B,10,none⟩=some (.string c.nm)/\V.cell? ⟨B,3,none⟩=some (.int .i64 dn)):=λV h=>by
  obtain⟨t0,-,-,t3,-,-,t6,t7,t8,t9,aZ,-,-,-,-⟩:=gh ac.out;exact⟨cC t0 h,cC t6 h,cC t7 h,cC t8 h,cC t9 h,cC aZ h,cC t3 h⟩
 have aj:Hid (Nf.Fg (pl L) c dn=0->∀ f:List Rw,pl f=Sp.lK (Sp.dW Sp.cZ) (pl L) c.no c.gen c.jz c.fm c.nm dn->∃ (k:Nat) (y:Rw),c.no=(k:Int)/\f[k]?=some y/\Nf.atR (pl f) c.no=y.i):=λh f hp=>Ku h hp
 clear hv hB aK;obtain⟨E,hE⟩:=qE (Nf.Fg (pl L) c dn);obtain⟨T,hT⟩:=qE (Sp.lK (Sp.dW Sp.cZ) (pl L) c.no c.gen c.jz c.fm c.nm dn);obtain⟨T2,X⟩:=qE (Nf.Fe (pl L) c dn);rw[hE,hT]at aj;rw[hE,X];unfold Nf.Fe at X;rw[hE,hT]at X;have HC:Hid (∀ V,Bw W V->Calls Tryz.prog 164 #[.slice ao n x,.agg #[.int .i64 c.no,.int .i64 c.gen],.agg #[.int .i64 c.jz,.int .i64 c.fm],.string c.nm,.int .i64 dn] V λe w'=>∃ p m q f,e=.returned (.tuple #[.slice p m q,.int .i64 E])/\(cD (λb=>V.1.size<=b) w' (.slice p m q) f/\pl f=T)/\Bw V w'):=λV h=>by
  refine (DC jd eQ _ L c.no c.gen c.jz c.fm c.nm dn V (HV.out.up h) eE hs).mono ?_;rintro e w' ⟨u,f,h1,h2,h3,h4⟩;unfold Nf.Fg at hE;rw[hE]at h1;rw[hT]at h3;obtain⟨p4,z4,hu,-,-⟩:=h2.open;subst hu;exact⟨p4,f.length,z4,f,h1,⟨h2,h3⟩,h4⟩
 obtain⟨T0,aL⟩:=qE (pl L);rw[aL]at X |-;have ak:Hid _:=X;clear hE hT X aL eE hs;go_enter Tryz.func135,Tryz.ntmps135;go_wp2_with fail;rw[<-hW];clear hW;apply lM
 ·intro ax;refine NX (by kernel_rfl) ?_;change wpAny _ _ _ _ _ _ _ (World.drew _);refine qV (i:=0) rfl ?_
  try simp only[qS]
  refine qV (i:=1) rfl ?_
  try simp only[qS]
  refine qV (i:=2) rfl ?_
  try simp only[qS]
  refine qV (i:=3) rfl ?_
  try simp only[qS]
  refine qV (i:=4) rfl ?_
  try simp only[qS]
  refine qV (i:=6) rfl ?_
  try simp only[qS]
  refine qV (i:=7) rfl ?_
  try simp only[qS]
  refine qV (i:=8) rfl ?_
  try simp only[qS]
  refine qV (i:=9) rfl ?_
  try simp only[qS]
  refine qV (i:=11) rfl ?_
  try simp only[qS]
  refine qV (i:=12) rfl ?_
  try simp only[qS]
  refine qV (i:=13) rfl ?_
  try simp only[qS]
  refine qV (i:=14) rfl ?_
  try simp only[qS]
  refine qV (i:=16) rfl ?_
  try simp only[qS]
  refine qV (i:=17) rfl ?_
  try simp only[qS]
  refine qV (i:=18) rfl ?_
  try simp only[qS]
  refine qV (i:=19) rfl ?_
  try simp only[qS]
  refine qV (i:=21) rfl ?_
  try simp only[qS]
  refine qV (i:=22) rfl ?_
  try simp only[qS]
  refine qV (i:=23) rfl ?_
  try simp only[qS]
  refine qV (i:=24) rfl ?_
  try simp only[qS]
  have HS:(λV:World=>V.cell? ⟨B,0,none⟩=some (.slice ao n x)/\V.cell? ⟨B,6,none⟩=some (.int .i64 c.no)/\V.cell? ⟨B,7,none⟩=some (.int .i64 c.gen)/\V.cell? ⟨B,8,none⟩=some (.int .i64 c.jz)/\V.cell? ⟨B,9,none⟩=some (.int .i64 c.fm)/\V.cell? ⟨B,10,none⟩=some (.string c.nm)/\V.cell? ⟨B,3,none⟩=some (.int .i64 dn)) W.drew:=aq.out _ (cX (MJ _ _));refine Fst.iu (late:=λk=>[26,27,28,29,31].contains k) (S:=λV:World=>V.cell? ⟨B,0,none⟩=some (.slice ao n x)/\V.cell? ⟨B,6,none⟩=some (.int .i64 c.no)/\V.cell? ⟨B,7,none⟩=some (.int .i64 c.gen)/\V.cell? ⟨B,8,none⟩=some (.int .i64 c.jz)/\V.cell? ⟨B,9,none⟩=some (.int .i64 c.fm)/\V.cell? ⟨B,10,none⟩=some (.string c.nm)/\V.cell? ⟨B,3,none⟩=some (.int .i64 dn)) _ _ _ _ ?_;refine Fst.tk (ls:=[26,27,28,29,31]) (i:=5) (v:=?v22) rfl (Or.inl ⟨by rfl,?h22⟩) HS ?r22
  case h22=>(rintro V ⟨s0,s6,s7,s8,s9,an,s3⟩;go_simp;try with_reducible rfl)
  try simp only[qS]
  refine Fst.tk (ls:=[26,27,28,29,31]) (i:=10) (v:=?v23) rfl (Or.inl ⟨by rfl,?h23⟩) HS ?r23
  case h23=>(rintro V ⟨s0,s6,s7,s8,s9,an,s3⟩;go_simp;try with_reducible rfl)
  try simp only[qS]
  refine Fst.tk (ls:=[26,27,28,29,31]) (i:=15) (v:=?v24) rfl (Or.inl ⟨by rfl,?h24⟩) HS ?r24
  case h24=>(rintro V ⟨s0,s6,s7,s8,s9,an,s3⟩;go_simp;try with_reducible rfl)
  try simp only[qS]
  refine Fst.tk (ls:=[26,27,28,29,31]) (i:=20) (v:=?v25) rfl (Or.inl ⟨by rfl,?h25⟩) HS ?r25
  case h25=>(rintro V ⟨s0,s6,s7,s8,s9,an,s3⟩;go_simp;try with_reducible rfl)
  try simp only[qS]
  refine Fst.tk (ls:=[26,27,28,29,31]) (i:=25) (v:=?v26) rfl (Or.inl ⟨by rfl,?h26⟩) HS ?r26
  case h26=>(rintro V ⟨s0,s6,s7,s8,s9,an,s3⟩;go_simp;try with_reducible rfl)
  try simp only[qS]
  refine Fst.two (ls:=[26,27,28,29,31]) (i:=26) (j:=30) (by kernel_rfl) rfl rfl (by kernel_rfl) (λK g=>?_) (λK g=>?_)
  ·go_simp
   refine (HC.out _ (cX (MJ _ _))).mono ?_;rintro e r ⟨p,m,q,f,rfl,R,Z⟩;have d:Bw W r:=dH Z;have M:Hid _:=(d.block _ ay).trans ac;have N:Hid _:=R.2;have O:=qJ ab d;have P:=qK d ai;have Q:Hid (cD (λb=>W.1.size<=b) r (.slice p m q) f):=R.1.imp (λb hb _=>hb);have al:W.1.size<=r.1.size:=d.size;clear Z R d HS
   (try go_wp2_with fail)
   first | (refine g _ _ ?_;clear g K) | skip
   try simp only[qS]
   refine qV (i:=27) rfl ?_
   try simp only[qS]
   refine qV (i:=28) rfl ?_
   try simp only[qS]
   refine Nc (rs:=[29,30]) (by kernel_rfl) (by simp) ?_;refine M7 rfl (λK g=>?_) (M7 rfl (λK g=>?_) M9)
   ·go_simp
    refine (gD (.slice ao n x) vo vs dn cl c B p m q E _ M.out).mono ?_;rintro e D ⟨rfl,J,a⟩;have F:Hid (D.1[B]?=some (gj (if E=0 then .slice p m q else .slice ao n x) vo vs dn cl c)):=J;have G:Hid (D.1[w.1.size]?=some fJ):=(a.block _ (by omega) (by simp;omega)).trans P.out;have H:Hid (cD (λb=>W.1.size<=b) D (.slice p m q) f):=fL Q.out a (by show ¬ W.1.size<=B;omega);have I:Hid (w.grownBy D (some B)):=cQ (cP O.out _) a;have aR:r.1.size<=D.1.size:=a.size;clear J a
    (try go_wp2_with fail)
    first | (refine g _ _ ?_;clear g K) | skip
    try simp only[qS]
    refine Nc (rs:=[30]) (by kernel_rfl) (by simp) ?_;refine M7 rfl (λK g=>?_) M9
    go_simp
    (try go_wp2_with fail)
    first | (refine g _ _ ?_;clear g K) | skip
    try simp only[qS]
    refine Nc (rs:=[31]) (by kernel_rfl) (by simp) ?_;refine M7 rfl (λK g=>?_) M9
    go_simp
    (try go_wp2_with fail)
    first | (refine g _ _ ?_;clear g K) | skip
    try simp only[qS]
    refine N1 (by kernel_rfl) ?_ _;obtain⟨Y,hY⟩:=qF (D.alloc (Gk E 0 0 0 0 0 0 ⟨#[]⟩ (.slice none 0 0) 0));rw[<-hY];obtain⟨A,hA⟩:=qF D.1.size;have ad:Bw D Y:=by rw[hY];exact qG _ _
    have HR:Hid (Y.1[A]?=some (Gk E 0 0 0 0 0 0 ⟨#[]⟩ (.slice none 0 0) 0)/\Y.1[w.1.size]?=some fJ/\W.1.size<=A/\Y.1[B]?=some (gj (if E=0 then .slice p m q else .slice ao n x) vo vs dn cl c)/\(cD (λb=>W.1.size<=b/\b≠A) Y (.slice p m q) f/\pl f=T)/\w.grownBy Y (some B)):=⟨by rw[hY,hA];exact MD _ _,(ad.block _ (by omega)).trans G.out,by omega,(ad.block _ (by omega)).trans F.out,⟨(H.out.imp (λb hb hl=>⟨hb,by omega⟩)).up ad,N.out⟩,wN I.out ad⟩;rw[<-hA];clear hA hY ad F G H I M N O P Q al aR;revert HR;revert A Y f q m p;exact ax.out
   ·go_simp
    (try go_wp2_with fail)
    first | (refine g _ _ ?_;clear g K) | skip
    try simp only[qS]
    refine Nc (rs:=[29]) (by kernel_rfl) (by simp) ?_;refine M7 rfl (λK g=>?_) M9
    go_simp
    have z:Bw r (r.alloc fJ):=qG _ _;refine (gD (.slice ao n x) vo vs dn cl c B p m q E _ ((z.block _ (by omega)).trans M.out)).mono ?_;rintro e D ⟨rfl,J,a⟩;have aS:(r.alloc fJ).1.size=r.1.size+1:=by simp
    have F:Hid _:=J;have G:Hid _:=(a.block _ (by omega) (by simp;omega)).trans ((z.block _ (by omega)).trans P.out);have C:Hid _:=(a.block _ (by omega) (by simp;omega)).trans (MD _ _);have H:Hid (cD (λb=>W.1.size<=b/\b≠r.1.size) D (.slice p m q) f):=fL ((Q.out.imp (λb hb hl=>⟨hb,by omega⟩)).up z) a (by show ¬ (W.1.size<=B/\B≠r.1.size);omega);obtain⟨g0,g1,g2,g3,g4,g5,g6,g7,g8,g9⟩:=ev C.out;have gg:=dw C.out;have I:Hid _:=cQ (wN (cP O.out _) z) a;clear J a z aS
    (try go_wp2_with fail)
    first | (refine g _ _ ?_;clear g K) | skip
    try simp only[qS]
    refine Nc (rs:=[31]) (by kernel_rfl) (by simp) ?_;refine M7 rfl (λK g=>?_) M9
    go_simp
    (try go_wp2_with fail)
    first | (refine g _ _ ?_;clear g K) | skip
    try simp only[qS]
    refine N1 (by kernel_rfl) ?_ _;obtain⟨Y,hY⟩:=qF ((((((((((D.setCell ⟨r.1.size,0,none⟩ (.int .i64 E)).setCell ⟨r.1.size,1,none⟩ (.int .i64 0)).setCell ⟨r.1.size,2,none⟩ (.int .i64 0)).setCell ⟨r.1.size,3,none⟩ (.int .i64 0)).setCell ⟨r.1.size,4,none⟩ (.int .i64 0)).setCell ⟨r.1.size,5,none⟩ (.int .i64 0)).setCell ⟨r.1.size,6,none⟩ (.int .i64 0)).setCell ⟨r.1.size,7,none⟩ (.string ⟨#[]⟩)).setCell ⟨r.1.size,8,none⟩ (.slice none 0 0)).setCell ⟨r.1.size,9,none⟩ (.int .i64 0));rw[<-hY];obtain⟨A,hA⟩:=qF r.1.size;have o:Y=D.setCells A 0 (cV E 0 0 0 0 0 0):=by rw[hA];exact hY
    have af:Hid (cD (λb=>W.1.size<=b/\b≠A) D (.slice p m q) f):=by show cD _ _ _ _;rw[hA];exact H.out
    rw[<-hA]at C |-;have ag:W.1.size<=A:=by omega
    have HR:Hid (Y.1[A]?=some (Gk E 0 0 0 0 0 0 ⟨#[]⟩ (.slice none 0 0) 0)/\Y.1[w.1.size]?=some fJ/\W.1.size<=A/\Y.1[B]?=some (gj (if E=0 then .slice p m q else .slice ao n x) vo vs dn cl c)/\(cD (λb=>W.1.size<=b/\b≠A) Y (.slice p m q) f/\pl f=T)/\w.grownBy Y (some B)):=⟨by rw[o];exact dO (cV E 0 0 0 0 0 0) C.out rfl,by rw[o];exact (dq _ _ _ (by omega)).trans G.out,ag,by rw[o];exact (dq _ _ _ (by omega)).trans F.out,⟨by rw[o];exact df (λh=>h.2 rfl) _ _ _ af.out,N.out⟩,by rw[o];exact gZ (.inl (by omega)) _ _ _ I.out⟩;clear hA hY o ag af F G H I M N O P C gg g0 g1 g2 g3 g4 g5 g6 g7 g8 g9 Q al;revert HR;revert A Y f q m p;exact ax.out
  ·go_simp
   have z:Bw W (W.drew.alloc fJ):=(cX (MJ _ _)).alloc (MI _) _;refine g _ _ (aq.out _ z) ?_;clear g K
   try simp only[qS]
   refine Fst.rest (by kernel_rfl) ?_;refine Nc (rs:=[26]) (by kernel_rfl) (by simp) ?_;refine M7 rfl (λK g=>?_) M9
   go_simp
   refine (HC.out _ (z)).mono ?_;rintro e r ⟨p,m,q,f,rfl,R,Z⟩;have d:Bw W r:=z.trans (Z.mono z.size);have M:Hid _:=(d.block _ ay).trans ac.out;have N:Hid _:=R.2;have O:=qJ ab d;have P:Hid _:=(d.block _ aQ).trans ai.out;have ar:(W.drew.alloc fJ).1.size=W.1.size+1:=by simp
   have az:cD (λb=>W.1.size+1<=b) r (.slice p m q) f:=R.1.imp (λb hb _=>by rw[ar]at hb;exact hb);have au:r.1[W.1.size]?=some fJ:=(Z.block _ (by rw[ar];omega)).trans (MD W.drew _);have al:W.1.size<r.1.size:=(qL au);have Q:Hid _:=az;have aA:Hid _:=au;clear Z R d HS z ar az au
   (try go_wp2_with fail)
   first | (refine g _ _ ?_;clear g K) | skip
   try simp only[qS]
   refine qV (i:=27) rfl ?_
   try simp only[qS]
   refine qV (i:=28) rfl ?_
   try simp only[qS]
   refine Nc (rs:=[29]) (by kernel_rfl) (by simp) ?_;refine M7 rfl (λK g=>?_) M9
   go_simp
   refine (gD (.slice ao n x) vo vs dn cl c B p m q E _ M.out).mono ?_;rintro e D ⟨rfl,J,a⟩;have F:Hid _:=J;have G:Hid _:=(a.block _ (by omega) (by simp;omega)).trans (P.out);have C:Hid _:=(a.block _ (by omega) (by simp;omega)).trans aA.out;have H:Hid (cD (λb=>W.1.size<=b/\b≠W.1.size) D (.slice p m q) f):=(fL Q.out a (by show ¬ W.1.size+1<=B;omega)).imp (λb hb _=>⟨by omega,by omega⟩);obtain⟨g0,g1,g2,g3,g4,g5,g6,g7,g8,g9⟩:=ev C.out;have gg:=dw C.out;have I:Hid _:=cQ (cP O.out _) a;clear J a
   (try go_wp2_with fail)
   first | (refine g _ _ ?_;clear g K) | skip
   try simp only[qS]
   refine Nc (rs:=[31]) (by kernel_rfl) (by simp) ?_;refine M7 rfl (λK g=>?_) M9
   go_simp
   (try go_wp2_with fail)
   first | (refine g _ _ ?_;clear g K) | skip
   try simp only[qS]
   refine N1 (by kernel_rfl) ?_ _;obtain⟨Y,hY⟩:=qF ((((((((((D.setCell ⟨W.1.size,0,none⟩ (.int .i64 E)).setCell ⟨W.1.size,1,none⟩ (.int .i64 0)).setCell ⟨W.1.size,2,none⟩ (.int .i64 0)).setCell ⟨W.1.size,3,none⟩ (.int .i64 0)).setCell ⟨W.1.size,4,none⟩ (.int .i64 0)).setCell ⟨W.1.size,5,none⟩ (.int .i64 0)).setCell ⟨W.1.size,6,none⟩ (.int .i64 0)).setCell ⟨W.1.size,7,none⟩ (.string ⟨#[]⟩)).setCell ⟨W.1.size,8,none⟩ (.slice none 0 0)).setCell ⟨W.1.size,9,none⟩ (.int .i64 0));rw[<-hY];obtain⟨A,hA⟩:=qF W.1.size;have o:Y=D.setCells A 0 (cV E 0 0 0 0 0 0):=by rw[hA];exact hY
   have af:Hid (cD (λb=>W.1.size<=b/\b≠A) D (.slice p m q) f):=by show cD _ _ _ _;rw[hA];exact H.out
   rw[<-hA]at C |-;have ag:W.1.size<=A:=by omega
   have HR:Hid (Y.1[A]?=some (Gk E 0 0 0 0 0 0 ⟨#[]⟩ (.slice none 0 0) 0)/\Y.1[w.1.size]?=some fJ/\W.1.size<=A/\Y.1[B]?=some (gj (if E=0 then .slice p m q else .slice ao n x) vo vs dn cl c)/\(cD (λb=>W.1.size<=b/\b≠A) Y (.slice p m q) f/\pl f=T)/\w.grownBy Y (some B)):=⟨by rw[o];exact dO (cV E 0 0 0 0 0 0) C.out rfl,by rw[o];exact (dq _ _ _ (by omega)).trans G.out,ag,by rw[o];exact (dq _ _ _ (by omega)).trans F.out,⟨by rw[o];exact df (λh=>h.2 rfl) _ _ _ af.out,N.out⟩,by rw[o];exact gZ (.inl (by omega)) _ _ _ I.out⟩;clear hA hY o ag af F G H I M N O P C gg g0 g1 g2 g3 g4 g5 g6 g7 g8 g9 Q aA al;revert HR;revert A Y f q m p;exact ax.out
 intro p m q f Y A HR;obtain⟨rA,rR,bd,rB,rT,rG⟩:=HR.out;have U:Hid _:=rT;have av:Hid _:=rG;clear aq HC HV ac ai HR rT rG ab;have ba:A≠w.1.size:=by omega
 have bb:w.1.size≠A:=by omega
 have aT:B≠A:=by omega
 have aU:=(qL rA);have aV:=(qL rR)
 by_cases hz:E=0
 ·subst hz;rw[MC rfl]at rB;have ah:Hid _:=rB;have hT:=ak.out;rw[MC rfl]at hT;have am:Hid _:=hT;obtain⟨k,y,aM,aN,aO⟩:=aj.out rfl f U.out.2;have aB:Hid _:=aN;have aC:Hid _:=aM;have aD:Hid _:=aO;obtain⟨-,-,-,-,-,-,t6,t7,-,-,-,-,-,-,-⟩:=gh rB;obtain⟨f0,f1,f2,f3,f4,f5,f6,f7,f8,f9⟩:=ev rA;have aE:Hid _:=rA;have aF:Hid _:=rR;clear rA rR rB hT aM aN aO aj ak;go_wp2_with fail;refine (pz (.slice p m q) vo vs dn cl c f B c.no c.gen Y ah.out U.out.1 aB.out aC.out).mono ?_;rintro e w8 ⟨rfl,aa⟩;have aG:Hid _:=(aa.block _ aU).trans aE;have aH:Hid _:=(aa.block _ aV).trans aF;have aW:=qK aa ah;have aX:Hid _:=U.out.1.up aa;have aI:Hid _:=U.out.2.trans am.out;have aY:Hid _:=wN av.out aa;have aw:Hid (Nf.KO 0 T2 c.no (y.i.kind,y.i.cH,y.i.size,y.i.cF)):=by
   show Nf.KO _ _ _ _;refine⟨λ_=>?_,λh=>absurd rfl h⟩;rw[<-aI.out,aD.out]
  clear aa U am ah aE aF av aC aB aD f0 f1 f2 f3 f4 f5 f6 f7 f8 f9 t6 t7;obtain⟨f0,f1,f2,f3,f4,f5,f6,f7,f8,f9⟩:=ev aG.out;have ff:=dw aG.out;obtain⟨g0,g1,g2,g3,g4,g5,g6,g7,g8,g9⟩:=ev aH.out;have gg:=dw aH.out;go_wp2
  (try simp only[Exit.inBlock,Exit.then])
  refine MK (v:=nr 0 0 0 y.i.kind y.i.cH y.i.size y.i.cF ⟨#[]⟩ (.slice none 0 0) 0) ?_ rfl ⟨.slice p m q,y.i.kind,y.i.cH,y.i.size,y.i.cF,rfl,?_,.inr ⟨f,?_,aI.out⟩,aw.out,?_⟩
  ·rw[cN rfl]
   go_simp
  ·repeat (with_reducible refine (MM _ _ _ _ (show B≠w.1.size from ap)).trans ?_)
   repeat (with_reducible refine (MM _ _ _ _ (show B≠A from aT)).trans ?_)
   exact aW.out
  ·refine cD.imp ?_ (S:=λb=>W.1.size<=b/\b≠A) (λb hb _=>by omega);refine df (A:=w.1.size) (S:=λb=>W.1.size<=b/\b≠A) (by show ¬ (W.1.size<=w.1.size/\_);omega) (cV 0 0 0 y.i.kind y.i.cH y.i.size y.i.cF) 0 _ ?_;exact df (A:=A) (S:=λb=>W.1.size<=b/\b≠A) (λh=>h.2 rfl) [.int .i64 y.i.kind,.int .i64 y.i.cH,.int .i64 y.i.size,.int .i64 y.i.cF] 3 _ aX.out
  ·repeat (with_reducible refine eN ?_ (.inl (MI w.1.size)) _)
   repeat (with_reducible refine eN ?_ (.inl (show w.1.size<=A by omega)) _)
   exact aY.out
 ·rw[ME hz]at rB;have ah:Hid _:=rB;have hT:=ak.out;rw[ME hz]at hT;have am:Hid _:=hT;have bc:(E==0)=false:=by simpa using hz
  have aw:Hid (Nf.KO E T2 c.no (0,0,0,0)):=⟨λh=>absurd h hz,λ_=>rfl⟩;obtain⟨f0,f1,f2,f3,f4,f5,f6,f7,f8,f9⟩:=ev rA;have ff:=dw rA;obtain⟨g0,g1,g2,g3,g4,g5,g6,g7,g8,g9⟩:=ev rR;have gg:=dw rR;clear rA rR rB hT aj ak U;go_wp2
  (try simp only[Exit.inBlock,Exit.then])
  refine MK (v:=nr E 0 0 0 0 0 0 ⟨#[]⟩ (.slice none 0 0) 0) ?_ rfl ⟨.slice ao n x,0,0,0,0,rfl,?_,.inl ⟨rfl,am.out.symm⟩,aw.out,?_⟩
  ·rw[cN rfl]
   go_simp
  ·repeat (with_reducible refine (MM _ _ _ _ (show B≠w.1.size from ap)).trans ?_)
   exact ah.out
  ·repeat (with_reducible refine eN ?_ (.inl (MI w.1.size)) _)
   exact av.out
end Go.Proofs.YtiifhfmekbhlnaaGreat
namespace Go.Proofs.YtiifhfmekbhlnaaGreat.Bs
namespace Bl
abbrev R:=Int × ByteArray
def d0:R:=(0,⟨#[]⟩)
def jA (l:List UInt8):ByteArray:=⟨l.toArray⟩
def bs (r:R):List UInt8:=r.2.data.toList
theorem J3 (a)(l:List UInt8):bs (a,jA l)=l:=by simp[bs,jA]
theorem iP (l:List UInt8):(jA l).size=l.length:=by simp[jA,ByteArray.size]
theorem oy (r:R):(bs r).length=r.2.size:=by simp[bs]
theorem size_append (a b:ByteArray):(a++b).size=a.size+b.size:=by simp
theorem fX (s:ByteArray) (a b:Nat):s.extract a b=jA ((s.data.toList.drop a).take (b-a)):=by
 cases s with
 | mk d =>
  simp only[jA];apply ByteArray.ext
  simp only[ByteArray.data_extract];rw[<-Array.toList_inj];simp[Array.toList_extract,List.extract_eq_take_drop]
def ee (r:R):Int:=r.1+r.2.size
abbrev Cv:Int:=1048576
def right (last:Int):List R->Prop
 | []=>True
 | r::l=>(r.2.size≠0/\last<r.1/\r.1+r.2.size<=Cv)/\right (ee r) l
instance rD:∀ (last:Int) (l:List R),Decidable (right last l)
 | _,[]=>.isTrue trivial
 | _,r::l=>@instDecidableAnd _ _ inferInstance (rD (ee r) l)
def dE (a:Int):List R->Int
 | []=>a
 | r::l=>dE (ee r) l
theorem eI (l m):∀ a,dE a (l++m)=dE (dE a l) m:=by
 induction l with
 | nil=>intro a;rfl
 | cons r l ih=>intro a;exact ih _
theorem fG (l m):∀ a,right a (l++m) ↔ right a l/\right (dE a l) m:=by
 induction l with
 | nil=>intro a;simp[right,dE]
 | cons r l ih =>
  intro a;have h:=ih (ee r);show (_/\right (ee r) (l++m)) ↔ (_/\right (ee r) l)/\right (dE (ee r) l) m;rw[h];exact (and_assoc (a:=_/\_/\_)).symm
theorem lP {l:List R}:∀ {a:Int},right a l->a<=dE a l:=by
 induction l with
 | nil=>intro a _;exact Ng _
 | cons r l ih =>
  intro a h;have:=ih h.2;have b:=h.1;show a<=dE (ee r) l;unfold ee at *;omega
theorem jk {l:List R}:∀ {a:Int},right a l->∀ r∈l,r.2.size≠0/\a<r.1/\ee r<=Cv:=by
 induction l with
 | nil=>intro a _ r b;cases b
 | cons s l ih =>
  intro a h r b;rcases Ni.1 b with rfl | b
  ·exact⟨h.1.1,h.1.2.1,h.1.2.2⟩
  ·have:=ih h.2 r b;have c:=h.1;unfold ee at *;exact⟨this.1,qo,this.2.2⟩
theorem ks {l:List R}:∀ {a:Int},right a l->a<=Cv->(l.length:Int)<=Cv-a:=by
 induction l with
 | nil=>intro a _ b;simp;omega
 | cons s l ih =>
  intro a h b;have c:=h.1;have:=ih h.2 (by unfold ee;omega);simp only[List.length_cons];unfold ee at *;omega
def fq (p:Int):List UInt8->List (Int × UInt8)
 | []=>[]
 | b::l=>(p,b)::fq (p+1) l
theorem pN (l:List UInt8):∀ p,∀ q∈fq p l,p<=q.1/\q.1<p+l.length:=by
 induction l with
 | nil=>intro p q a;cases a
 | cons b l ih =>
  intro p q a;simp only[fq,List.mem_cons]at a;simp only[List.length_cons];rcases a with rfl | a
  ·simp;omega
  ·have:=ih _ q a;omega
theorem ET (a)(l:List UInt8):∀ p,(fq p l).filter (λq=>decide (a<=q.1))=fq (max p a) (l.drop (a-p).toNat):=by
 induction l with
 | nil=>intro p;simp[fq]
 | cons b l ih =>
  intro p;simp only[fq]
  by_cases h:a<=p
  ·rw[List.filter_cons_of_pos (by simpa using h),ih,show (a-p).toNat=0 from by omega,show (a-(p+1)).toNat=0 from by omega,show max p a=p from by omega,show max (p+1) a=p+1 from by omega];simp[fq]
  ·rw[List.filter_cons_of_neg (by simpa using h),ih,show (a-p).toNat=(a-(p+1)).toNat+1 from by omega,show max (p+1) a=max p a from by omega];simp
theorem filter_lt (a)(l:List UInt8):∀ p,(fq p l).filter (λq=>decide (q.1<a))=fq p (l.take (a-p).toNat):=by
 induction l with
 | nil=>intro p;simp[fq]
 | cons b l ih =>
  intro p;simp only[fq]
  by_cases h:p<a
  ·rw[List.filter_cons_of_pos (by simpa using h),ih,show (a-p).toNat=(a-(p+1)).toNat+1 from by omega];simp[fq]
  ·rw[List.filter_cons_of_neg (by simpa using h),ih,show (a-p).toNat=0 from by omega,show (a-(p+1)).toNat=0 from by omega];simp[fq]
def one (r:R):List (Int × UInt8):=fq r.1 (bs r)
def oN (l:List R):List (Int × UInt8):=l.flatMap one
theorem zh (l m):oN (l++m)=oN l++oN m:=by simp[oN]
theorem wV (r:R)(l):oN (r::l)=one r++oN l:=by simp[oN]
theorem I7 (r:R):∀ q∈one r,r.1<=q.1/\q.1<ee r:=λq a=>by
 have:=pN _ _ q a;rw[oy]at this;exact this
def clip (a b:Int) (r:R):Option R :=
 if max r.1 a<min (ee r) b then some (max r.1 a,r.2.extract (max r.1 a-r.1).toNat (min (ee r) b-r.1).toNat) else none
def within (a b:Int) (l:List R):List R:=l.filterMap (clip a b)
def LS (a b:Int) (q:Int × UInt8):Bool:=decide (a<=q.1)&&decide (q.1<b)
theorem filter_one (a b) (r:R):(one r).filter (LS a b)=match clip a b r with | some s=>one s | none=>[]:=by
 have e:(one r).filter (LS a b)=((one r).filter (λq=>decide (q.1<b))).filter (λq=>decide (a<=q.1)):=by
  rw[List.filter_filter];rfl
 rw[e];unfold one;rw[filter_lt,ET];have c:=oy r;unfold clip ee
 by_cases h:max r.1 a<min (r.1+r.2.size) b
 ·rw[MC h];simp only;rw[fX,J3]
  congr 1
  show ((bs r).take _).drop _=((bs r).drop _).take _;rw[List.drop_take,show (max r.1 a-r.1).toNat=(a-r.1).toNat from by omega]
  by_cases h2:r.1+r.2.size<=b
  ·rw[MY (by simp only[List.length_drop];omega),MY (by simp only[List.length_drop];omega)]
  ·congr 1
   omega
 ·rw[ME h];simp only;have:(List.drop (a-r.1).toNat (List.take (b-r.1).toNat (bs r)))=[]:=by
   apply MX
   simp only[List.length_drop,List.length_take];omega
  rw[this];rfl
theorem zd (a b)(l):oN (within a b l)=(oN l).filter (LS a b):=by
 induction l with
 | nil=>rfl
 | cons r l ih =>
  rw[wV,Ov,filter_one,<-ih];unfold within;rw[List.filterMap_cons]
  cases clip a b r with
  | none=>simp
  | some s=>simp[wV]
theorem Ac (a b)(l)(x:R):within a b (l++[x])=within a b l++(clip a b x).toList:=by
 unfold within;rw[List.filterMap_append]
 congr 1
theorem mg {a b:Int}{r s:R} (h:clip a b r=some s):s.1=max r.1 a/\ee s=min (ee r) b/\0<s.2.size:=by
 unfold clip at h;split at h
 ·rename_i hlt
  cases h
  have c:=oy r;have e:(r.2.extract (max r.1 a-r.1).toNat (min (ee r) b-r.1).toNat).size=(min (ee r) b-max r.1 a).toNat:=by
   rw[fX,iP];simp only[List.length_take,List.length_drop];unfold bs at c;rw[c];unfold ee at *;omega
  refine⟨rfl,?_,?_⟩
  ·unfold ee at *;simp only[e];omega
  ·simp only[e];omega
 ·cases h
def chain (a:Int):List R->Prop
 | []=>True
 | r::l=>(r.2.size≠0/\a<=r.1/\ee r<=Cv)/\chain (ee r) l
theorem kz (a b):∀ (l:List R) (last c:Int),right last l->(c<=last+1\/c<=a)->chain c (within a b l)
 | [],_,_,_,_=>trivial
 | r::l,last,c,h,hc => by
  unfold within;rw[List.filterMap_cons];have h1:=h.1
  cases hx:clip a b r with
  | none =>
   refine kz a b l (ee r) c h.2 ?_;unfold ee;rcases hc with hc | hc
   ·left;omega
   ·exact .inr hc
  | some s =>
   obtain⟨e1,e2,e3⟩:=mg hx;refine⟨⟨qo,qo,by unfold ee at *;omega⟩,kz a b l (ee r) (ee s) h.2 (.inl qo)⟩
theorem pk {a b:Int}{l:List R}:∀ s∈within a b l,a<=s.1/\ee s<=b/\0<s.2.size:=by
 intro s c;obtain⟨r,_,d⟩:=List.mem_filterMap.1 c;obtain⟨g,h,f⟩:=mg d;exact⟨qo,qo,f⟩
theorem mN {b:Int}{ys:List R}(hy:chain b ys):∀ (xs:List R) (a:Int),chain a xs->(∀ x∈xs,ee x<=b)->a<=b->chain a (xs++ys)
 | [],a,_,_,hab=>by
  match ys,hy with
  | [],_=>trivial
  | r::l,h=>exact⟨⟨h.1.1,by have:=h.1.2.1;omega,h.1.2.2⟩,h.2⟩
 | x::xs,a,h,hm,_=>⟨h.1,mN hy xs (ee x) h.2 (λy hy=>hm y (N2 _ hy)) (hm x (List.mem_cons_self ..))⟩
def join (l:List R) (r:R):List R :=
 match l.getLast? with
 | none=>[r]
 | some s=>if ee s=r.1 then l.dropLast++[(s.1,s.2++r.2)] else l++[r]
theorem join_nil (r:R):join [] r=[r]:=rfl
theorem jh (l)(s r:R):join (l++[s]) r=if ee s=r.1 then l++[(s.1,s.2++r.2)] else l++[s]++[r]:=by
 simp[join]
theorem fP (l:List R):l=[]\/∃ m s,l=m++[s]:=by
 rcases List.eq_nil_or_concat l with h | ⟨m,s,h⟩
 ·exact .inl h
 ·exact .inr ⟨m,s,by simpa using h⟩
theorem Cb {l:List R}{r:R}(h:right (-1) l)(h1:r.2.size≠0)(h2:dE (-1) l<=r.1) (h3:0<=r.1) (h4:ee r<=Cv):right (-1) (join l r)/\dE (-1) (join l r)=ee r:=by
 rcases fP l with rfl | ⟨m,s,rfl⟩
 ·exact⟨⟨⟨h1,by omega,h4⟩,trivial⟩,rfl⟩
 ·rw[jh];rw[fG]at h;obtain⟨a,b,_⟩:=h;rw[eI]at h2;have c:ee s<=r.1:=h2;split
  ·rename_i he
   refine⟨(fG _ _ _).2 ⟨a,⟨?_,trivial⟩⟩,?_⟩
   ·simp only[size_append];unfold ee at *;refine⟨by omega,b.2.1,by omega⟩
   ·rw[eI];show ee _=ee r;unfold ee at *;simp only[size_append];omega
  ·rename_i he
   refine⟨(fG _ _ _).2 ⟨(fG _ _ _).2 ⟨a,b,trivial⟩,⟨⟨h1,?_,h4⟩,trivial⟩⟩,?_⟩
   ·rw[eI];show ee s<r.1;omega
   ·rw[eI];rfl
def eC (l xs:List R):List R:=xs.foldl join l
theorem p8 (l xs ys):eC l (xs++ys)=eC (eC l xs) ys:=by simp[eC]
theorem mX (l xs)(x:R):eC l (xs++[x])=join (eC l xs) x:=by simp[eC]
theorem sO:∀ (xs l:List R) (a:Int),right (-1) l->dE (-1) l<=a->0<=a->chain a xs->right (-1) (eC l xs)
 | [],_,_,h,_,_,_=>h
 | x::xs,l,a,h,h2,h0,hc=>by
  obtain⟨hr,he⟩:=Cb h hc.1.1 (Oa h2 hc.1.2.1) (Oa h0 hc.1.2.1) hc.1.2.2;have h1:=hc.1;exact sO xs (join l x) (ee x) hr (Int.le_of_eq he) (by unfold ee;omega) hc.2
def total (l:List R):Nat:=(l.map λr=>r.2.size).sum
theorem BF (l:List R) (r:R):total (join l r)=total l+r.2.size:=by
 rcases fP l with rfl | ⟨m,s,rfl⟩
 ·simp[join_nil,total]
 ·rw[jh];split
  ·simp[total];omega
  ·simp[total];omega
theorem AU (xs):∀ l,total (eC l xs)=total l+total xs:=by
 induction xs with
 | nil=>intro l;simp[eC,total]
 | cons x xs ih =>
  intro l;show total (eC (join l x) xs)=_;rw[ih,BF];simp[total];omega
theorem length_join (l:List R) (r:R):(join l r).length<=l.length+1:=by
 rcases fP l with rfl | ⟨m,s,rfl⟩
 ·simp[join_nil]
 ·rw[jh];split <;> simp
theorem mA (xs):∀ l,(eC l xs).length<=l.length+xs.length:=by
 induction xs with
 | nil=>intro l;simp[eC]
 | cons x xs ih =>
  intro l;have:=ih (join l x);have a:=length_join l x;show (eC (join l x) xs).length<=_;simp only[List.length_cons];omega
theorem Eo {l:List R}{r:R}(h:r∈l):r.2.size<=total l:=by
 induction l with
 | nil=>cases h
 | cons s l ih =>
  simp only[total,List.map_cons,List.sum_cons];rcases Ni.1 h with rfl | h
  ·omega
  ·have:=ih h;unfold total at this;omega
def parts (l:List R) (at_:Int) (d:ByteArray):List R:=within 0 at_ l++(if d.size=0 then [] else [(at_,d)])++within (at_+d.size) Cv l
def write (l:List R) (at_:Int) (d:ByteArray):List R:=eC [] (parts l at_ d)
theorem sG {l:List R}{at_:Int}{d:ByteArray}(h:right (-1) l)(h0:0<=at_)(h1:at_+d.size<=Cv):right (-1) (write l at_ d):=by
 refine sO _ [] 0 trivial qd (Ng _) ?_;unfold parts;refine mN (b:=at_+d.size) (kz _ _ l (-1) _ h (.inr (Ng _))) _ 0 (mN (b:=at_) ?_ _ 0 (kz _ _ l (-1) _ h (.inr (Ng _))) (λx a=>(pk x a).2.1) h0) (λx a=>?_) qo
 ·split
  ·trivial
  ·exact⟨⟨‹_›,Ng _,h1⟩,trivial⟩
 ·rcases Na.1 a with a | a
  ·have:=(pk x a).2.1;omega
  ·split at a
   ·cases a
   ·simp only[List.mem_singleton]at a;subst a;exact Ng _
def look (c:UInt8) (p:Int) (l:List (Int × UInt8)):UInt8:=l.foldl (λc q=>if q.1=p then q.2 else c) c
theorem zO (c:UInt8)(p)(l m):look c p (l++m)=look (look c p l) p m:=by simp[look]
theorem zB (f:Int × UInt8->Bool)(p)(l):∀ c,(∀ q∈l,q.1=p->f q=true)->look c p (l.filter f)=look c p l:=by
 induction l with
 | nil=>intro c _;rfl
 | cons q l ih =>
  intro c h;have a:∀ q∈l,q.1=p->f q=true:=λq b=>h q (N2 _ b)
  by_cases hf:f q=true
  ·rw[List.filter_cons_of_pos hf];exact ih _ a
  ·rw[List.filter_cons_of_neg hf,ih _ a];have:¬ q.1=p:=λe=>hf (h q (List.mem_cons_self ..) e)
   show _=look (if q.1=p then q.2 else c) p l;rw[ME this]
theorem wj (c:UInt8)(p)(l)(h:∀ q∈l,q.1≠p):look c p l=c:=by
 induction l with
 | nil=>rfl
 | cons q l ih =>
  show look (if q.1=p then q.2 else c) p l=c;rw[ME (h q (List.mem_cons_self ..)),ih (λq a=>h q (N2 _ a))]
theorem ED (l:List UInt8):∀ (c:UInt8) (p s:Int),s<=p->p<s+l.length->look c p (fq s l)=l.getD (p-s).toNat 0:=by
 induction l with
 | nil=>intro c p s d a;simp at a;omega
 | cons b l ih =>
  intro c p s d a;simp only[fq];show look (if s=p then b else c) p (fq (s+1) l)=_;simp only[List.length_cons]at a
  by_cases e:s=p
  ·subst e;rw[MC rfl,wj _ _ _ (λq f=>by have:=pN _ _ q f;omega)];simp
  ·rw[ME e,ih _ _ _ qo qo,show (p-s).toNat=(p-(s+1)).toNat+1 from by omega];simp
theorem Ht (c:UInt8)(p)(r:R):look c p (one r)=if r.1<=p/\p<ee r then (bs r).getD (p-r.1).toNat 0 else c:=by
 split
 ·rename_i h
  exact ED _ _ _ _ h.1 (by rw[oy];exact h.2)
 ·rename_i h
  exact wj _ _ _ (λq a e=>h (by have:=I7 r q a;omega))
end Bl
end Go.Proofs.YtiifhfmekbhlnaaGreat.Bs
namespace Go.Proofs.YtiifhfmekbhlnaaGreat.Bs
open ChangeShapes WideShapes ChangeAt RowKit Deep
def cT (B : Nat) (w : World) (v : Value) (l : List (Int × ByteArray)) : Prop :=
 (∃ ao cap,v=.slice ao 0 cap/\l=[]) \/
 (∃ b off cap,v=.slice (some ⟨b,off,none⟩) l.length cap/\b<B/\0<l.length/\l.length<=cap/\cap<=maxLen /\
  ∀ i,i<l.length->w.cell? ⟨b,off+i*2,none⟩=some (.int .i64 (l.getD i (0,.empty)).1)/\w.cell? ⟨b,off+i*2+1,none⟩=some (.string (l.getD i (0,.empty)).2))
theorem cT.below {B C:Nat}{w w':World}{v:Value}{l:List (Int × ByteArray)}(h:cT B w v l)(hb:Below C w w')(hC:B<=C):cT B w' v l:=by
 rcases h with h | ⟨b,a,c,d,f,g,j,k,m⟩
 ·exact .inl h
 ·refine .inr ⟨b,a,c,d,f,g,j,k,λi n => ?_⟩
  rw[hb.cell (p:=⟨b,a+i*2,none⟩) (by show b<C;omega),hb.cell (p:=⟨b,a+i*2+1,none⟩) (by show b<C;omega)];exact m i n
theorem cT.mono {B C:Nat}{w:World}{v:Value}{l:List (Int × ByteArray)}(h:cT B w v l)(hC:B<=C):cT C w v l:=by
 rcases h with h | ⟨b,c,d,f,m,g,i,j,k⟩
 ·exact .inl h
 ·exact .inr ⟨b,c,d,f,qo,g,i,j,k⟩
def dQ (l:List (Int × ByteArray)):Prop:=∀ x∈l,(-9223372036854775808<=x.1/\x.1<=9223372036854775807)/\x.2.size<=maxLen
theorem dQ.at {l:List (Int × ByteArray)}(h:dQ l){i:Nat}(hi:i<l.length):(-9223372036854775808<=(l.getD i (0,.empty)).1/\(l.getD i (0,.empty)).1<=9223372036854775807)/\(l.getD i (0,.empty)).2.size<=maxLen:=by
 have:l.getD i (0,.empty)∈l:=by simp[List.getD,hi]
 exact h _ this
def cellsOf (l:List (Int × ByteArray)):List Value:=l.flatMap λx=>[.int .i64 x.1,.string x.2]
theorem nK (l):(cellsOf l).length=l.length*2:=by
 induction l with
 | nil=>rfl
 | cons x l ih=>simp only[cellsOf,List.flatMap_cons,List.length_append,List.length_cons,List.length_nil]at ih |-;omega
theorem fz (l m):cellsOf (l++m)=cellsOf l++cellsOf m:=by simp[cellsOf]
theorem jG (l):∀ i,i<l.length->(cellsOf l)[i*2]?=some (.int .i64 (l.getD i (0,.empty)).1)/\(cellsOf l)[i*2+1]?=some (.string (l.getD i (0,.empty)).2):=by
 induction l with
 | nil=>intro i a;simp at a
 | cons x l ih =>
  intro i a
  match i,a with
  | 0,_=>simp[cellsOf]
  | i+1,a =>
   have:=ih i (by simpa using a);have e:cellsOf (x::l)=.int .i64 x.1::.string x.2::cellsOf l:=by simp[cellsOf]
   rw[e,show (i+1)*2=i*2+1+1 from by omega];simpa using this
theorem cT.open {B:Nat}{w:World}{v:Value}{l:List (Int × ByteArray)}(h:cT B w v l):∃ ao cap,v=.slice ao l.length cap/\l.length<=maxLen/\∀ j,j<l.length->∃ b off,ao=some ⟨b,off,none⟩/\b<B/\w.cell? ⟨b,off+j*2,none⟩=some (.int .i64 (l.getD j (0,.empty)).1)/\w.cell? ⟨b,off+j*2+1,none⟩=some (.string (l.getD j (0,.empty)).2):=by
 rcases h with⟨ao,cap,rfl,rfl⟩ | ⟨b,off,cap,rfl,a,_,f,g,d⟩
 ·exact⟨ao,cap,rfl,qs,λj c=>by simp at c⟩
 ·exact⟨_,cap,rfl,qo,λj c=>⟨b,off,rfl,a,d j c⟩⟩
theorem sk {w:World}{base:Nat}{e:TypeId}{size:Nat}{v:Value}{n:Nat}{xs:List Value}(h:w.ownsRow base e size v n xs)(k):(w.drewN k).ownsRow base e size v n xs:=h
theorem jb (w:World)(row:Option Nat):w.grownBy w row:=⟨rfl,rfl,rfl,qn,λ_ _ _=>rfl⟩
theorem cQ {a b c:World}{row:Option Nat}(h:a.grownBy b row)(k:b.grownBy c row):a.grownBy c row :=
 ⟨k.os.trans h.os,k.tape.trans h.tape,k.output.trans h.output,MS h.size k.size,λi d f=>(k.block i (M6 d h.size) f).trans (h.block i d f)⟩
theorem wg {w W:World}(h:w.grownBy W none)(row:Option Nat):w.grownBy W row:=⟨h.os,h.tape,h.output,h.size,λk a _=>h.block k a qs⟩
theorem AY {w W:World}{row:Option Nat}(h:w.grownBy W row)(q):w.grownBy (W.drewN q) row:=⟨h.os,h.tape,h.output,h.size,h.block⟩
theorem cP {w w':World}(h:Bw w w')(row:Option Nat):w.grownBy w' row:=⟨h.os,h.tape,h.output,h.size,λk a _=>h.block k a⟩
theorem dR {B:Nat}{w w':World}(h:w.grownBy w' none)(hs:B<=w.1.size):Below B w w':=(MJ B w).grown h hs (λk a=>by cases a)
theorem my (W:World)(g:Nat)(hg:g=W.1.size)(a b:Value) (T:TypeId):∀ j u,[a,b][j]?=some u->(W.alloc (.cells #[a,b] T)).cell? ((⟨g,0,none⟩:Addr).add j)=some u:=by
 subst hg;intro j u c;rw[Go.WideShapes.add_plain]
 match j,c with
 | 0,c=>simp at c;subst c;simp
 | 1,c=>simp at c;subst c;simp
theorem Bn (a)(s):∀ u∈[Value.int .i64 a,.string s],u.oneCell'=true:=by
 intro u b;simp at b;rcases b with rfl | rfl <;> rfl
end Go.Proofs.YtiifhfmekbhlnaaGreat.Bs
