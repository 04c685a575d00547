/- NDo, as one. -/
import Derived.Test.YtneojimodomohaaGreatV33
set_option maxHeartbeats 8000000
set_option maxRecDepth 100000
set_option linter.unusedSimpArgs false
namespace Go.Proofs.YtneojimodomohaaGreat
open Go.ChangeShapes Go.WideShapes Go.ChangeAt Go.RowKit Go.Deep It
theorem qU {P:Program} {md:Region.Mode} {ops:Array Oper} {Q:Exit->Act->World->Prop} {n:Nat} {l:Array Bool} {a:Act} {w:World} (i:Nat) {oi:Oper} (h:∀ K:Act->World->Prop,(∀ a w,wpAny P md ops Q n (l.setIfInBounds i true) a w->K a w)->if Region.wanted oi (yielded ops a.tmps) = true then Oper.wp P oi a w K Q else K (a.put oi.dst undef) w) (hr:Region.ready md ops l = [i]:=by kernel_rfl) (gi:ops[i]? = some oi:=by rfl):wpAny P md ops Q (n + 1) l a w:=wpAny_ready (rs:=[i]) hr (by simp) (AllReady.cons gi h AllReady.nil)
theorem results_cc {fn:Func} {p q:Tmp} {ty tz:TypeId} (h:fn.results = #[.cell p ty,.cell q tz]) (tmps:Array Value) (P:Program) (w:World) :
  (results fn tmps).run P w = ((asAddr (tmps.getD p undef)).run P w).andThen fun a w₁=>((loadVar ty a).run P w₁).andThen fun v w₂=>((asAddr (tmps.getD q undef)).run P w₂).andThen fun b w₃=>((loadVar tz b).run P w₃).andThen fun u w₄=>.ok (.tuple #[v,u]) w₄:=by
 simp only [results,h];simp [Sem.run_bind,Result.andThen]
namespace Nf
noncomputable def doR (L:List Ino) (O:List Os.Opn) (dn cl:Int) (c:Cal):Rpl:=if refE L O dn cl = 0 then (if Ks.Ak.right c = true then rep L O (dn + 1) cl c else bad 413) else bad (refE L O dn cl)
noncomputable def doD (L:List Ino) (O:List Os.Opn) (dn cl:Int):Int:=if refE L O dn cl = 0 then dn + 1 else dn
noncomputable def doT (L:List Ino) (O:List Os.Opn) (dn cl:Int) (c:Cal):List Ino:=if refE L O dn cl = 0 then (if Ks.Ak.right c = true then tab L O (dn + 1) cl c else L) else L
noncomputable def doO (L:List Ino) (O:List Os.Opn) (dn cl:Int) (c:Cal):List Os.Opn:=if refE L O dn cl = 0 then (if Ks.Ak.right c = true then ops L O cl c else O) else O
theorem ref_zero {L:List Ino} {O:List Os.Opn} {dn cl:Int} (h:refE L O dn cl = 0):right L O dn = true/\dn≠1099511627776/\0<=cl/\cl<=1099511627776:=by
 unfold refE at h
 by_cases hr:right L O dn = true
 ·rw [if_pos hr] at h
  by_cases hd:dn = 1099511627776
  ·rw [if_pos hd] at h;exact absurd h (by decide)
  ·rw [if_neg hd] at h
   by_cases hc:0<=cl/\cl<=1099511627776
   ·exact ⟨hr,hd,hc⟩
   ·rw [if_neg hc] at h;exact absurd h (by decide)
 ·rw [if_neg hr] at h;exact absurd h (by decide)
theorem right_open {L:List Ino} {O:List Os.Opn} {dn:Int} (h:right L O dn = true):Sp.isSp L = true/\Os.Op.right 0 O = true/\filesOk L O = true/\allBytes L<=8192/\doneOk L dn = true:=by
 unfold right at h;simp only [Bool.and_eq_true,decide_eq_true_eq] at h;exact ⟨h.1,h.2.1,h.2.2.1,h.2.2.2.1,h.2.2.2.2⟩
theorem right_done {L:List Ino} {O:List Os.Opn} {dn:Int} (h:right L O dn = true):0<=dn/\dn<=1099511627776:=by
 have:=(right_open h).2.2.2.2;unfold doneOk at this;simp only [Bool.and_eq_true,decide_eq_true_eq] at this;exact this.1
theorem right_named {L:List Ino} {O:List Os.Opn} {dn:Int} (h:right L O dn = true):∀ x∈O,names L x.2.2.1 x.2.2.2 = true:=by
 intro x hx;have:=(right_open h).2.2.1;unfold filesOk at this;rw [Bool.and_eq_true] at this;have h1:=this.1;rw [Bool.not_eq_true',List.any_eq_false] at h1;have h2:=h1 x hx;simp only [Bool.not_eq_true',decide_eq_false_iff_not,Classical.not_not] at h2;exact files_named h2
end Nf
theorem four_new (w:World) (a b c d:Obj):((((w.alloc a).alloc b).alloc c).alloc d).heap[w.heap.size]? = some a/\((((w.alloc a).alloc b).alloc c).alloc d).heap[w.heap.size + 1]? = some b/\((((w.alloc a).alloc b).alloc c).alloc d).heap[w.heap.size + 2]? = some c/\((((w.alloc a).alloc b).alloc c).alloc d).heap[w.heap.size + 3]? = some d/\Bw w ((((w.alloc a).alloc b).alloc c).alloc d)/\((((w.alloc a).alloc b).alloc c).alloc d).heap.size = w.heap.size + 4:=by
 have s1:(w.alloc a).heap.size = w.heap.size + 1:=by simp
 have s2:((w.alloc a).alloc b).heap.size = w.heap.size + 2:=by simp
 have s3:(((w.alloc a).alloc b).alloc c).heap.size = w.heap.size + 3:=by simp
 have s4:((((w.alloc a).alloc b).alloc c).alloc d).heap.size = w.heap.size + 4:=by simp
 have e1:=heap_alloc_new w a;have e2:=heap_alloc_new (w.alloc a) b;have e3:=heap_alloc_new ((w.alloc a).alloc b) c;have e4:=heap_alloc_new (((w.alloc a).alloc b).alloc c) d;rw [s1] at e2;rw [s2] at e3;rw [s3] at e4;have up:∀ (v:World) (x:Obj) (k:Nat),k < v.heap.size->(v.alloc x).heap[k]? = v.heap[k]?:=fun v x k hk=>Below.heap_alloc _ _ _ hk
 refine ⟨?_,?_,?_,e4,?_,s4⟩
 ·rw [up _ _ _ (by rw [s3];omega),up _ _ _ (by rw [s2];omega),up _ _ _ (by rw [s1];omega)];exact e1
 ·rw [up _ _ _ (by rw [s3];omega),up _ _ _ (by rw [s2];omega)];exact e2
 ·rw [up _ _ _ (by rw [s3];omega)];exact e3
 ·exact (((qG _ _).alloc (by rw [s1];omega) _).alloc (by rw [s2];omega) _).alloc (by rw [s3];omega) _
section
variable {S P:Nat->Prop} {w w5:World} {n2 n3:Nat}
theorem fin_tab {v:Value} {L:List Rw} (xs ys:List Value) (h:TabAt P w5 v L) (hP:∀ b,P b->b≠n2/\b≠n3/\(S b∨w.heap.size<=b)):TabAt (fun b=>S b∨w.heap.size<=b) ((w5.setCells n2 0 xs).setCells n3 0 ys) v L :=
 (setCells_tab (S:=P) (fun h=>(hP n3 h).2.1 rfl) ys 0 _ (setCells_tab (S:=P) (fun h=>(hP n2 h).1 rfl) xs 0 _ h)).imp (fun b hb _=>(hP b hb).2.2)
theorem fin_at {α:Type} {E:Enc α} {v:Value} {l:List α} (xs ys:List Value) (h:At E P w5 v l) (hP:∀ b,P b->b≠n2/\b≠n3/\(S b∨w.heap.size<=b)):At E (fun b=>S b∨w.heap.size<=b) ((w5.setCells n2 0 xs).setCells n3 0 ys) v l :=
 (setCells_ats (S:=P) (fun h=>(hP n3 h).2.1 rfl) ys 0 _ (setCells_ats (S:=P) (fun h=>(hP n2 h).1 rfl) xs 0 _ h)).imp (fun b hb _=>(hP b hb).2.2)
theorem fin_below (xs ys:List Value) (h:Bw w w5) (h2:w.heap.size<=n2) (h3:w.heap.size<=n3):Bw w ((w5.setCells n2 0 xs).setCells n3 0 ys):=setCells_below h3 ys 0 _ (setCells_below h2 xs 0 _ h)
end
theorem ndo_any {S:Nat->Prop} (vi vo:Value) (sp:Option Addr) (sn sc:Nat) (dn cl:Int) (c:Cal) (L:List Rw) (O:List Os.Opn) (w:World) (hv:TabAt S w vi L) (ho:At Os.EO S w vo O) (hok:Sp.okN L) (hs:c.nm.size<=maxLen) (hs2:c.nm2.size<=maxLen) (hd:c.data.size<=maxLen) :
  Calls Tryz.prog 11 #[VSt vi vo (.slice sp sn sc) dn,.int .i64 cl,Ks.VC c] w fun e w'=>∃ u uo ve L',e = .returned (.tuple #[VSt u uo (.slice sp sn sc) (Nf.doD (pl L) O dn cl),VR (Nf.doR (pl L) O dn cl c) ve])/\TabAt (fun b=>S b∨w.heap.size<=b) w' u L'/\pl L' = Nf.doT (pl L) O dn cl c/\At Os.EO (fun b=>S b∨w.heap.size<=b) w' uo (Nf.doO (pl L) O dn cl c)/\At EE (fun b=>S b∨w.heap.size<=b) w' ve (Nf.doR (pl L) O dn cl c).ents/\Bw w w':=by
 obtain ⟨ai,ci,hvi,-,-⟩:=hv.open;obtain ⟨ni,hni⟩:=qE L.length;rw [hni] at hvi;subst hvi;obtain ⟨ao,co,hvo,-,-⟩:=ho.open;obtain ⟨no,hno⟩:=qE O.length;rw [hno] at hvo;subst hvo;obtain ⟨W,hW⟩:=qF ((((w.alloc (BSt (.slice ai ni ci) (.slice ao no co) (.slice sp sn sc) dn)).alloc (Ks.BC c)).alloc BS0).alloc BR0);obtain ⟨b0,b1,b2,b3,hB0,hWs⟩:=four_new w (BSt (.slice ai ni ci) (.slice ao no co) (.slice sp sn sc) dn) (Ks.BC c) BS0 BR0;rw [← hW] at b0 b1 b2 b3 hB0 hWs;have HB0:Hid (Bw w W):=hB0;have H0:Hid (W.heap[w.heap.size]? = some (BSt (.slice ai ni ci) (.slice ao no co) (.slice sp sn sc) dn)):=b0;have H1:Hid (W.heap[w.heap.size + 1]? = some (Ks.BC c)):=b1;have H2:Hid (W.heap[w.heap.size + 2]? = some BS0):=b2;have H3:Hid (W.heap[w.heap.size + 3]? = some BR0):=b3;have HV:Hid (TabAt (fun b=>S b/\b < w.heap.size) W (.slice ai ni ci) L):=(hv.imp (fun _ h hl=>⟨h,hl⟩)).up hB0;have HO:Hid (At Os.EO (fun b=>S b/\b < w.heap.size) W (.slice ao no co) O):=(ho.imp (fun _ h hl=>⟨h,hl⟩)).up hB0;have HOK:Hid (Sp.okN L):=hok;have HS1:Hid (c.nm.size<=maxLen/\c.nm2.size<=maxLen/\c.data.size<=maxLen):=⟨hs,hs2,hd⟩;obtain ⟨RE,hRE⟩:=qE (Nf.refE (pl L) O dn cl);obtain ⟨DD,hDD⟩:=qE (Nf.doD (pl L) O dn cl);obtain ⟨DR,hDR⟩:=qE (Nf.doR (pl L) O dn cl c);obtain ⟨DT,hDT⟩:=qE (Nf.doT (pl L) O dn cl c);obtain ⟨DO,hDO⟩:=qE (Nf.doO (pl L) O dn cl c);rw [hDD,hDR,hDT,hDO];unfold Nf.doD at hDD;unfold Nf.doR at hDR;unfold Nf.doT at hDT;unfold Nf.doO at hDO;rw [hRE] at hDD hDR hDT hDO;have HRE:Hid (Nf.refE (pl L) O dn cl = RE):=hRE;obtain ⟨n0,h0⟩:=qE w.heap.size;obtain ⟨n1,h1⟩:=qE (w.heap.size + 1);obtain ⟨n2,h2⟩:=qE (w.heap.size + 1 + 1);obtain ⟨n3,h3⟩:=qE (w.heap.size + 1 + 1 + 1);rw [show w.heap.size + 3 = n3 by omega] at H3;rw [show w.heap.size + 2 = n2 by omega] at H2;rw [show w.heap.size + 1 = n1 by omega] at H1;rw [h0] at H0;have HE0:Hid (w.heap.size = n0):=h0;have HE1:Hid (w.heap.size + 1 = n1):=h1;have HE2:Hid (w.heap.size + 1 + 1 = n2):=h2;have HE3:Hid (w.heap.size + 1 + 1 + 1 = n3):=h3
 have HN:Hid (w.heap.size = n0/\n1 = n0 + 1/\n2 = n0 + 2/\n3 = n0 + 3/\W.heap.size = n0 + 4):=⟨h0,by omega,by omega,by omega,by omega⟩;have h01:n0 < n1:=by omega
 have h12:n1 < n2:=by omega
 have h23:n2 < n3:=by omega
 have h3W:n3 < W.heap.size:=by omega
 have hSn:∀ b,(S b/\b < w.heap.size)->b < n0:=fun b h=>by omega
 clear hni hno hv ho b0 b1 b2 b3 hB0 hok hs hs2 hd hRE h0 h1 h2 h3 hWs
 by_cases hz:RE = 0
 ·rw [if_pos hz] at hDD hDR hDT hDO;subst hz;obtain ⟨hRt,hdn,hcl⟩:=Nf.ref_zero HRE.out;have hdb:=Nf.right_done hRt;have hdn1:dn + 1<=1099511627776:=by omega
  have hdn0:0<=dn:=hdb.1;have HRT:Hid (Nf.right (pl L) O dn = true):=hRt;have HD1:Hid (dn + 1 = DD):=hDD;have HDR:Hid ((if Ks.Ak.right c = true then Nf.rep (pl L) O (dn + 1) cl c else Nf.bad 413) = DR):=hDR;have HDT:Hid ((if Ks.Ak.right c = true then Nf.tab (pl L) O (dn + 1) cl c else pl L) = DT):=hDT;have HDO:Hid ((if Ks.Ak.right c = true then Nf.ops (pl L) O cl c else O) = DO):=hDO;clear hDD hDR hDT hDO hRt hdn hcl hdb;go_enter Tryz.func11,Tryz.ntmps11;go_wp2_with fail;rw [← hW,HE3.out,HE2.out,HE1.out,HE0.out];clear hW;refine (nrefuse_any (.slice ai ni ci) (.slice ao no co) sp sn sc dn cl L O W HV.out HOK.out HO.out.wide).mono ?_;rintro e w1 ⟨rfl,hb1⟩;rw [HRE.out];have HV1:Hid (TabAt (fun b=>S b/\b < w.heap.size) w1 (.slice ai ni ci) L):=HV.out.up hb1;have HO1:Hid (At Os.EO (fun b=>S b/\b < w.heap.size) w1 (.slice ao no co) O):=HO.out.up hb1;have H01:Hid (w1.heap[n0]? = some (BSt (.slice ai ni ci) (.slice ao no co) (.slice sp sn sc) dn)):=(hb1.block _ (by omega)).trans H0.out;have H11:Hid (w1.heap[n1]? = some (Ks.BC c)):=(hb1.block _ (by omega)).trans H1.out;have H21:Hid (w1.heap[n2]? = some BS0):=(hb1.block _ (by omega)).trans H2.out;have H31:Hid (w1.heap[n3]? = some BR0):=(hb1.block _ (by omega)).trans H3.out;have HB1:Hid (Bw w w1):=HB0.out.trans (hb1.mono HB0.out.size);clear hb1 HB0 H0 H1 H2 H3 HV HO;obtain ⟨t0,t1,t2,t3⟩:=st_of H01.out;have tf:=fr_at H01.out;obtain ⟨c0,c1,c2,c3,c4,c5,c6,c7,c8,c9⟩:=Ks.ten_of H11.out;go_wp2_with fail;obtain ⟨w2,hw2⟩:=qF (w1.setCell ⟨n0,3,none⟩ (.int .i64 (dn + 1)));rw [← hw2];have H02:Hid (w2.heap[n0]? = some (BSt (.slice ai ni ci) (.slice ao no co) (.slice sp sn sc) (dn + 1))):=by
   show w2.heap[n0]? = _;rw [hw2];have h4:=set_at H01.out 3 (.int .i64 (dn + 1));simpa using h4
  have H12:Hid (w2.heap[n1]? = some (Ks.BC c)):=by show _ = _;rw [hw2];exact (Below.heap_setCell _ _ _ _ (show n1≠n0 by omega)).trans H11.out
  have H22:Hid (w2.heap[n2]? = some BS0):=by show _ = _;rw [hw2];exact (Below.heap_setCell _ _ _ _ (show n2≠n0 by omega)).trans H21.out
  have H32:Hid (w2.heap[n3]? = some BR0):=by show _ = _;rw [hw2];exact (Below.heap_setCell _ _ _ _ (show n3≠n0 by omega)).trans H31.out
  have HB2:Hid (Bw w w2):=by show Below _ _ _;rw [hw2];exact Below.setCell HB1.out (by have h:=HN.out;show w.heap.size<=n0;omega) _
  have HV2:Hid (TabAt (fun b=>S b/\b < w.heap.size) w2 (.slice ai ni ci) L):=by
   show TabAt _ _ _ _;rw [hw2];exact setCells_tab (A:=n0) (S:=fun b=>S b/\b < w.heap.size) (fun h=>by have h':=HN.out;omega) [.int .i64 (dn + 1)] 3 _ HV1.out
  have HO2:Hid (At Os.EO (fun b=>S b/\b < w.heap.size) w2 (.slice ao no co) O):=by
   show At _ _ _ _ _;rw [hw2];exact setCells_ats (A:=n0) (S:=fun b=>S b/\b < w.heap.size) (fun h=>by have h':=HN.out;omega) [.int .i64 (dn + 1)] 3 _ HO1.out
  clear hw2 H01 H11 H21 H31 HB1 HV1 HO1 t0 t1 t2 t3 tf c0 c1 c2 c3 c4 c5 c6 c7 c8 c9;have h2a:=(qL H02.out);have h2b:=(qL H12.out);have h2c:=(qL H22.out);have h2d:=(qL H32.out);obtain ⟨ce,hce⟩:∃ ce:Int,(if Ks.Ak.right c = true then (0:Int) else 413) = ce:=⟨_,rfl⟩;refine (Ks.check_is c w2 ce hce).mono ?_;rintro e w3 ⟨rfl,hb3⟩;have H03:=qK hb3 H02;have H13:=qK hb3 H12;have H23:=qK hb3 H22;have H33:=qK hb3 H32;have HB3:Hid (Bw w w3):=HB2.out.trans (hb3.mono HB2.out.size);have HVX:Hid (TabAt (fun b=>S b/\b < w.heap.size) w3 (.slice ai ni ci) L):=HV2.out.up hb3;have HOX:Hid (At Os.EO (fun b=>S b/\b < w.heap.size) w3 (.slice ao no co) O):=HO2.out.up hb3;clear hb3 H02 H12 H22 H32 HB2 HV2 HO2 h2a h2b h2c h2d
  by_cases hr:Ks.Ak.right c = true
  ·rw [if_pos hr] at hce;subst hce;have HRC:Hid (Ks.Ak.right c = true):=hr;have HR1:Hid (Nf.rep (pl L) O (dn + 1) cl c = DR):=by have h:=HDR.out;rw [if_pos hr] at h;exact h
   have HT1:Hid (Nf.tab (pl L) O (dn + 1) cl c = DT):=by have h:=HDT.out;rw [if_pos hr] at h;exact h
   have HQ1:Hid (Nf.ops (pl L) O cl c = DO):=by have h:=HDO.out;rw [if_pos hr] at h;exact h
   obtain ⟨t0,t1,t2,t3⟩:=st_of H03.out;obtain ⟨c0,c1,c2,c3,c4,c5,c6,c7,c8,c9⟩:=Ks.ten_of H13.out;clear hr HDR HDT HDO;go_wp2_with fail;obtain ⟨tb,htb⟩:=qE w3.heap.size;obtain ⟨Z,hZ⟩:=qF (w3.alloc (BTk (.slice ai ni ci) (.slice ao no co) (.slice sp sn sc) (dn + 1) cl c));have bz:Bw w3 Z:=by rw [hZ];exact qG _ _
   have HTZ:Hid (Z.heap[tb]? = some (BTk (.slice ai ni ci) (.slice ao no co) (.slice sp sn sc) (dn + 1) cl c)):=by show Z.heap[tb]? = _;rw [hZ,← htb];exact heap_alloc_new _ _
   have n1t:n1 < tb:=by rw [← htb];exact (qL H13.out)
   have n2t:n2 < tb:=by rw [← htb];exact (qL H23.out)
   have n3t:n3 < tb:=by rw [← htb];exact (qL H33.out)
   have HWT:Hid (w.heap.size<=tb):=by show _<=_;rw [← htb];exact HB3.out.size
   have H1Z:Hid (Z.heap[n1]? = some (Ks.BC c)):=(bz.block _ (by omega)).trans H13.out;have H2Z:Hid (Z.heap[n2]? = some BS0):=(bz.block _ (by omega)).trans H23.out;have H3Z:Hid (Z.heap[n3]? = some BR0):=(bz.block _ (by omega)).trans H33.out;have HBZ:Hid (Bw w Z):=HB3.out.trans (bz.mono HB3.out.size);have HVZ:Hid (TabAt (fun b=>S b/\b < w.heap.size) Z (.slice ai ni ci) L):=HVX.out.up bz;have HOZ:Hid (At Os.EO (fun b=>S b/\b < w.heap.size) Z (.slice ao no co) O):=HOX.out.up bz;have htZ:tb < Z.heap.size:=(qL HTZ.out);have HZT:Hid (Z.heap.size = tb + 1):=by show _ = _;rw [hZ,← htb];simp
   obtain ⟨f,j,hkf⟩:=kind_any tb HRC.out;have HKF:Hid (KindOf tb c f j):=hkf;have HCF:Hid (∀ w,(callFunc f #[.pointer (some ⟨tb,0,none⟩)]).run Tryz.prog w = .ok (.enter f #[.pointer (some ⟨tb,0,none⟩)]) w):=hkf.2.1;have HDY:Hid (∀ V,Bw Z V->Calls Tryz.prog f #[.pointer (some ⟨tb,0,none⟩)] V fun e w'=>∃ ep en ec up un uc op on oc L',e = .returned (VR DR (.slice ep en ec))/\w'.heap[tb]? = some (BTk (.slice up un uc) (.slice op on oc) (.slice sp sn sc) (dn + 1) cl c)/\TabAt (fun b=>(S b/\b < w.heap.size)∨V.heap.size<=b) w' (.slice up un uc) L'/\pl L' = DT/\At Os.EO (fun b=>(S b/\b < w.heap.size)∨V.heap.size<=b) w' (.slice op on oc) DO/\At EE (fun b=>(S b/\b < w.heap.size)∨V.heap.size<=b) w' (.slice ep en ec) DR.ents/\V.grownBy w' (some tb)):=fun V h=>by
    have hwt:=HWT.out;refine (HKF.out.2.2 (S:=fun b=>S b/\b < w.heap.size) (L:=L) (O:=O) (dn:=dn + 1) (cl:=cl) ⟨(h.block _ htZ).trans HTZ.out,HVZ.out.up h,fun hb=>by omega,HOZ.out.up h,HOK.out,HS1.out.1,HS1.out.2.1,HS1.out.2.2,Nf.right_named HRT.out⟩).mono ?_;rintro e w' ⟨u,uo,ve,L',h1,h2,h3,h4,h5,h6,h7⟩;rw [HR1.out] at h1 h6;rw [HT1.out] at h4;rw [HQ1.out] at h5;obtain ⟨up,uc,hu,-,-⟩:=h3.open;obtain ⟨op,oc,hu2,-,-⟩:=h5.open;obtain ⟨ep,ec,hu3,-,-⟩:=h6.open;subst hu hu2 hu3;exact ⟨_,_,_,_,_,_,_,_,_,L',h1,h2,h3,h4,h5,h6,h7⟩
   rw [← hZ,htb];clear hZ htb bz hkf H03 H13 H23 H33 HB3 HVX HOX HR1 HT1 HQ1 t0 t1 t2 t3 c0 c1 c2 c3 c4 c5 c6 c7 c8 c9 HVZ HOZ HRT HRC HS1 HOK;apply cut_in
   ·intro hK0;refine wp_region_any (by kernel_rfl) ?_;change wpAny _ _ _ _ _ _ _ (World.drew _);refine qV (i:=0) rfl ?_
    try simp only [qS]
    refine qV (i:=2) rfl ?_
    try simp only [qS]
    have HS:(fun V:World=>V.heap[n1]? = some (Ks.BC c)) Z.drew:=H1Z.out;refine Fst.any_of (late:=fun k=>[4,5,7].contains k) (S:=fun V:World=>V.heap[n1]? = some (Ks.BC c)) _ _ _ _ ?_;refine Fst.tk (ls:=[4,5,7]) (i:=3) (v:=?v7) rfl (Or.inl ⟨by rfl,?h7⟩) HS ?r7
    case h7=>(intro V s;obtain ⟨s0,s1,s2,s3,s4,s5,s6,s7,s8,s9⟩:=Ks.ten_of s;go_simp;try with_reducible rfl)
    try simp only [qS]
    clear HS;refine Fst.both (late:=fun k=>[4,5,7].contains k) (i:=1) (j:=6) (by kernel_rfl) rfl rfl (fun K hK=>?_) (fun K hK=>?_)
    ·go_simp
     refine (kinds_any tb _).mono ?_;rintro e w5 ⟨r,rfl,hr5,hm5,hb5⟩;have hb55:Bw Z w5:=undrew hb5;have HM5:Hid (Ym.IM w5 r (Nf.kmap tb)):=hm5;have H15:Hid (w5.heap[n1]? = some (Ks.BC c)):=(hb55.block _ (by omega)).trans H1Z.out;have HB5:Hid (Bw Z w5):=hb55;clear hr5 hm5 hb5 hb55
     (try go_wp2_with fail)
     first | (refine hK _ _ (H15.out) ?_;clear hK K) | skip
     try simp only [qS]
     refine Fst.two (ls:=[4,5,7]) (i:=4) (j:=6) (by kernel_rfl) rfl rfl (by kernel_rfl) (fun K hK=>?_) (fun K hK=>?_)
     ·have hl:(Instr.lookup 67 (.map (some r)) (.int .i64 c.k) false).run Tryz.prog w5 = .ok (VFn f tb) w5:=by
       have h:=Ym.look_in Tryz.underlying67 HM5.out HKF.out.1 false;simpa using h
      go_simp
      clear hl
      first | (refine hK _ _ ?_;clear hK K) | skip
      try simp only [qS]
      refine wpAny_ready (rs:=[5,6]) (by kernel_rfl) (by simp) ?_;refine AllReady.cons rfl (fun K hK=>?_) (AllReady.cons rfl (fun K hK=>?_) AllReady.nil)
      ·rw [if_pos (by kernel_rfl)];refine dyn_wp rfl rfl HCF.out (HDY.out w5 (HB5.out)) ?_;rintro e w7 ⟨ep,en,ec,up,un,uc,op,on,oc,L',rfl,q1,q2,q3,q4,q5,q6⟩;refine ⟨_,rfl,?_⟩;have HQ7:Hid (w7.heap[tb]? = some (BTk (.slice up un uc) (.slice op on oc) (.slice sp sn sc) (dn + 1) cl c)/\TabAt (fun b=>(S b/\b < w.heap.size)∨w5.heap.size<=b) w7 (.slice up un uc) L'/\pl L' = DT/\At Os.EO (fun b=>(S b/\b < w.heap.size)∨w5.heap.size<=b) w7 (.slice op on oc) DO/\At EE (fun b=>(S b/\b < w.heap.size)∨w5.heap.size<=b) w7 (.slice ep en ec) DR.ents/\w5.grownBy w7 (some tb)):=⟨q1,q2,q3,q4,q5,q6⟩;clear q1 q2 q3 q4 q5 q6
       first | (refine hK _ _ ?_;clear hK K) | skip
       try simp only [qS]
       refine qU 6 fun K hK=>?_
       go_simp
       (try go_wp2_with fail)
       first | (refine hK _ _ ?_;clear hK K) | skip
       try simp only [qS]
       refine qU 7 fun K hK=>?_
       go_simp
       (try go_wp2_with fail)
       first | (refine hK _ _ ?_;clear hK K) | skip
       try simp only [qS]
       refine wpAny_done (by kernel_rfl) ?_ _;have hq:=HQ7.out;have hbw:Bw w w5:=HBZ.out.trans ((HB5.out).mono HBZ.out.size);have hsz:=(HB5.out).size;have hR0:Aft S w n2 n3 tb (.slice sp sn sc) (dn + 1) cl c DR DT DO (.slice ep en ec) (.slice up un uc) (.slice op on oc) L' (w7.alloc (BRl DR (.slice ep en ec))) w7.heap.size:=aft_new (((HB5.out).block _ (by omega)).trans H2Z.out) (((HB5.out).block _ (by omega)).trans H3Z.out) n2t n3t HWT.out (by omega) hbw hq.1 hq.2.1 hq.2.2.1 hq.2.2.2.1 hq.2.2.2.2.1 hq.2.2.2.2.2;obtain ⟨Y,hY⟩:=qF (w7.alloc (BRl DR (.slice ep en ec)));obtain ⟨A,hA⟩:=qF w7.heap.size;rw [← hY,← hA] at hR0;rw [← hY,← hA];have HR:Hid (Aft S w n2 n3 tb (.slice sp sn sc) (dn + 1) cl c DR DT DO (.slice ep en ec) (.slice up un uc) (.slice op on oc) L' Y A):=hR0;clear hY hA hR0 hq hbw hsz HQ7 HM5 H15 HB5;revert HR;revert A Y L' oc on op uc un up ec en ep r;exact hK0.out
      ·go_simp
       have hb6:Bw Z (w5.alloc BR0):=HB5.out.alloc HB5.out.size _;have HB6:Hid (Bw Z (w5.alloc BR0)):=hb6;have HA6:Hid ((w5.alloc BR0).heap[w5.heap.size]? = some BR0):=heap_alloc_new _ _;have h5s:tb < w5.heap.size:=by have h:=HB5.out.size;omega
       clear hb6
       (try go_wp2_with fail)
       first | (refine hK _ _ ?_;clear hK K) | skip
       try simp only [qS]
       refine qU 5 fun K hK=>?_;rw [if_pos (by kernel_rfl)];refine dyn_wp rfl rfl HCF.out (HDY.out (w5.alloc BR0) (HB6.out)) ?_;rintro e w7 ⟨ep,en,ec,up,un,uc,op,on,oc,L',rfl,q1,q2,q3,q4,q5,q6⟩;refine ⟨_,rfl,?_⟩;have HQ7:Hid (w7.heap[tb]? = some (BTk (.slice up un uc) (.slice op on oc) (.slice sp sn sc) (dn + 1) cl c)/\TabAt (fun b=>(S b/\b < w.heap.size)∨(w5.alloc BR0).heap.size<=b) w7 (.slice up un uc) L'/\pl L' = DT/\At Os.EO (fun b=>(S b/\b < w.heap.size)∨(w5.alloc BR0).heap.size<=b) w7 (.slice op on oc) DO/\At EE (fun b=>(S b/\b < w.heap.size)∨(w5.alloc BR0).heap.size<=b) w7 (.slice ep en ec) DR.ents/\(w5.alloc BR0).grownBy w7 (some tb)):=⟨q1,q2,q3,q4,q5,q6⟩;clear q1 q2 q3 q4 q5 q6;have hq:=HQ7.out;have hsz:=(HB6.out).size;have HA7:Hid (w7.heap[w5.heap.size]? = some BR0):=(hq.2.2.2.2.2.block _ (qL HA6.out) (by simp;omega)).trans HA6.out;obtain ⟨g0,g1,g2,g3,g4,g5,g6,g7,g8,g9⟩:=rp_of HA7.out;have gg:=fr_at HA7.out;clear hq
       first | (refine hK _ _ ?_;clear hK K) | skip
       try simp only [qS]
       refine qU 7 fun K hK=>?_
       go_simp
       (try go_wp2_with fail)
       first | (refine hK _ _ ?_;clear hK K) | skip
       try simp only [qS]
       refine wpAny_done (by kernel_rfl) ?_ _;have hq:=HQ7.out;have hbw:Bw w (w5.alloc BR0):=HBZ.out.trans ((HB6.out).mono HBZ.out.size);have hR0:Aft S w n2 n3 tb (.slice sp sn sc) (dn + 1) cl c DR DT DO (.slice ep en ec) (.slice up un uc) (.slice op on oc) L' (w7.setCells (w5.heap.size) 0 (cR DR (.slice ep en ec))) (w5.heap.size):=aft_old (((HB6.out).block _ (by omega)).trans H2Z.out) (((HB6.out).block _ (by omega)).trans H3Z.out) n2t n3t HWT.out (by omega) hbw HA6.out (h5s) hq.1 hq.2.1 hq.2.2.1 hq.2.2.2.1 hq.2.2.2.2.1 hq.2.2.2.2.2;obtain ⟨Y,hY⟩:=qF ((((((((((w7.setCell ⟨w5.heap.size,0,none⟩ (.int .i64 DR.e)).setCell ⟨w5.heap.size,1,none⟩ (.int .i64 DR.no)).setCell ⟨w5.heap.size,2,none⟩ (.int .i64 DR.gen)).setCell ⟨w5.heap.size,3,none⟩ (.int .i64 DR.kind)).setCell ⟨w5.heap.size,4,none⟩ (.int .i64 DR.links)).setCell ⟨w5.heap.size,5,none⟩ (.int .i64 DR.size)).setCell ⟨w5.heap.size,6,none⟩ (.int .i64 DR.stamp)).setCell ⟨w5.heap.size,7,none⟩ (.string DR.data)).setCell ⟨w5.heap.size,8,none⟩ (.slice ep en ec)).setCell ⟨w5.heap.size,9,none⟩ (.int .i64 DR.n));have hY2:Y = w7.setCells (w5.heap.size) 0 (cR DR (.slice ep en ec)):=hY;rw [← hY];rw [← hY2] at hR0;obtain ⟨A,hA⟩:=qF w5.heap.size;rw [← hA] at hR0;rw [← hA];have HR:Hid (Aft S w n2 n3 tb (.slice sp sn sc) (dn + 1) cl c DR DT DO (.slice ep en ec) (.slice up un uc) (.slice op on oc) L' Y A):=hR0;clear hY hY2 hA hR0 hq hbw hsz HQ7 HA7 g0 g1 g2 g3 g4 g5 g6 g7 g8 g9 gg HM5 H15 HB5 HB6 HA6 h5s;revert HR;revert A Y L' oc on op uc un up ec en ep r;exact hK0.out
     ·go_simp
      have hb6:Bw Z (w5.alloc BR0):=HB5.out.alloc HB5.out.size _;have HB6:Hid (Bw Z (w5.alloc BR0)):=hb6;have HA6:Hid ((w5.alloc BR0).heap[w5.heap.size]? = some BR0):=heap_alloc_new _ _;have h5s:tb < w5.heap.size:=by have h:=HB5.out.size;omega
      clear hb6;refine hK _ _ ((qG _ _:Bw w5 (w5.alloc BR0)).block _ (qL H15.out) |>.trans H15.out) ?_;clear hK K
      try simp only [qS]
      refine Fst.rest (by kernel_rfl) ?_;refine qU 4 fun K hK=>?_;have hl:(Instr.lookup 67 (.map (some r)) (.int .i64 c.k) false).run Tryz.prog (w5.alloc BR0) = .ok (VFn f tb) (w5.alloc BR0):=by
       have h:=Ym.look_in Tryz.underlying67 (HM5.out.kept ((Below.refl _ _:Bw w5 w5).alloc (Nat.le_refl _) BR0 |>.block _ HM5.out.lt)) HKF.out.1 false;simpa using h
      go_simp
      clear hl
      first | (refine hK _ _ ?_;clear hK K) | skip
      try simp only [qS]
      refine qU 5 fun K hK=>?_;rw [if_pos (by kernel_rfl)];refine dyn_wp rfl rfl HCF.out (HDY.out (w5.alloc BR0) (HB6.out)) ?_;rintro e w7 ⟨ep,en,ec,up,un,uc,op,on,oc,L',rfl,q1,q2,q3,q4,q5,q6⟩;refine ⟨_,rfl,?_⟩;have HQ7:Hid (w7.heap[tb]? = some (BTk (.slice up un uc) (.slice op on oc) (.slice sp sn sc) (dn + 1) cl c)/\TabAt (fun b=>(S b/\b < w.heap.size)∨(w5.alloc BR0).heap.size<=b) w7 (.slice up un uc) L'/\pl L' = DT/\At Os.EO (fun b=>(S b/\b < w.heap.size)∨(w5.alloc BR0).heap.size<=b) w7 (.slice op on oc) DO/\At EE (fun b=>(S b/\b < w.heap.size)∨(w5.alloc BR0).heap.size<=b) w7 (.slice ep en ec) DR.ents/\(w5.alloc BR0).grownBy w7 (some tb)):=⟨q1,q2,q3,q4,q5,q6⟩;clear q1 q2 q3 q4 q5 q6;have hq:=HQ7.out;have hsz:=(HB6.out).size;have HA7:Hid (w7.heap[w5.heap.size]? = some BR0):=(hq.2.2.2.2.2.block _ (qL HA6.out) (by simp;omega)).trans HA6.out;obtain ⟨g0,g1,g2,g3,g4,g5,g6,g7,g8,g9⟩:=rp_of HA7.out;have gg:=fr_at HA7.out;clear hq
      first | (refine hK _ _ ?_;clear hK K) | skip
      try simp only [qS]
      refine qU 7 fun K hK=>?_
      go_simp
      (try go_wp2_with fail)
      first | (refine hK _ _ ?_;clear hK K) | skip
      try simp only [qS]
      refine wpAny_done (by kernel_rfl) ?_ _;have hq:=HQ7.out;have hbw:Bw w (w5.alloc BR0):=HBZ.out.trans ((HB6.out).mono HBZ.out.size);have hR0:Aft S w n2 n3 tb (.slice sp sn sc) (dn + 1) cl c DR DT DO (.slice ep en ec) (.slice up un uc) (.slice op on oc) L' (w7.setCells (w5.heap.size) 0 (cR DR (.slice ep en ec))) (w5.heap.size):=aft_old (((HB6.out).block _ (by omega)).trans H2Z.out) (((HB6.out).block _ (by omega)).trans H3Z.out) n2t n3t HWT.out (by omega) hbw HA6.out (h5s) hq.1 hq.2.1 hq.2.2.1 hq.2.2.2.1 hq.2.2.2.2.1 hq.2.2.2.2.2;obtain ⟨Y,hY⟩:=qF ((((((((((w7.setCell ⟨w5.heap.size,0,none⟩ (.int .i64 DR.e)).setCell ⟨w5.heap.size,1,none⟩ (.int .i64 DR.no)).setCell ⟨w5.heap.size,2,none⟩ (.int .i64 DR.gen)).setCell ⟨w5.heap.size,3,none⟩ (.int .i64 DR.kind)).setCell ⟨w5.heap.size,4,none⟩ (.int .i64 DR.links)).setCell ⟨w5.heap.size,5,none⟩ (.int .i64 DR.size)).setCell ⟨w5.heap.size,6,none⟩ (.int .i64 DR.stamp)).setCell ⟨w5.heap.size,7,none⟩ (.string DR.data)).setCell ⟨w5.heap.size,8,none⟩ (.slice ep en ec)).setCell ⟨w5.heap.size,9,none⟩ (.int .i64 DR.n));have hY2:Y = w7.setCells (w5.heap.size) 0 (cR DR (.slice ep en ec)):=hY;rw [← hY];rw [← hY2] at hR0;obtain ⟨A,hA⟩:=qF w5.heap.size;rw [← hA] at hR0;rw [← hA];have HR:Hid (Aft S w n2 n3 tb (.slice sp sn sc) (dn + 1) cl c DR DT DO (.slice ep en ec) (.slice up un uc) (.slice op on oc) L' Y A):=hR0;clear hY hY2 hA hR0 hq hbw hsz HQ7 HA7 g0 g1 g2 g3 g4 g5 g6 g7 g8 g9 gg HM5 H15 HB5 HB6 HA6 h5s;revert HR;revert A Y L' oc on op uc un up ec en ep r;exact hK0.out
    ·go_simp
     have hb6:Bw Z (Z.drew.alloc BR0):=(bel_drew (Below.refl _ _)).alloc (Nat.le_refl _) _;refine hK _ _ ((hb6.block _ (by omega)).trans H1Z.out) ?_;clear hK K
     try simp only [qS]
     refine Fst.one (late:=fun k=>[4,5,7].contains k) (i:=1) (by kernel_rfl) rfl (fun K hK=>?_)
     go_simp
     refine (kinds_any tb _).mono ?_;rintro e w5 ⟨r,rfl,hr5,hm5,hb5⟩;have hb55:Bw Z w5:=hb6.trans (hb5.mono hb6.size);have HM5:Hid (Ym.IM w5 r (Nf.kmap tb)):=hm5;have H15:Hid (w5.heap[n1]? = some (Ks.BC c)):=(hb55.block _ (by omega)).trans H1Z.out;have HB5:Hid (Bw Z w5):=hb55;have HA6:Hid (w5.heap[Z.heap.size]? = some BR0):=(hb5.block _ (by simp)).trans (heap_alloc_new Z.drew _);clear hr5 hm5 hb5 hb55 hb6
     (try go_wp2_with fail)
     first | (refine hK _ _ (H15.out) ?_;clear hK K) | skip
     try simp only [qS]
     refine Fst.rest (by kernel_rfl) ?_;refine qU 4 fun K hK=>?_;have hl:(Instr.lookup 67 (.map (some r)) (.int .i64 c.k) false).run Tryz.prog w5 = .ok (VFn f tb) w5:=by
      have h:=Ym.look_in Tryz.underlying67 HM5.out HKF.out.1 false;simpa using h
     go_simp
     clear hl
     first | (refine hK _ _ ?_;clear hK K) | skip
     try simp only [qS]
     refine qU 5 fun K hK=>?_;rw [if_pos (by kernel_rfl)];refine dyn_wp rfl rfl HCF.out (HDY.out w5 (HB5.out)) ?_;rintro e w7 ⟨ep,en,ec,up,un,uc,op,on,oc,L',rfl,q1,q2,q3,q4,q5,q6⟩;refine ⟨_,rfl,?_⟩;have HQ7:Hid (w7.heap[tb]? = some (BTk (.slice up un uc) (.slice op on oc) (.slice sp sn sc) (dn + 1) cl c)/\TabAt (fun b=>(S b/\b < w.heap.size)∨w5.heap.size<=b) w7 (.slice up un uc) L'/\pl L' = DT/\At Os.EO (fun b=>(S b/\b < w.heap.size)∨w5.heap.size<=b) w7 (.slice op on oc) DO/\At EE (fun b=>(S b/\b < w.heap.size)∨w5.heap.size<=b) w7 (.slice ep en ec) DR.ents/\w5.grownBy w7 (some tb)):=⟨q1,q2,q3,q4,q5,q6⟩;clear q1 q2 q3 q4 q5 q6;have hq:=HQ7.out;have hsz:=(HB5.out).size;have HA7:Hid (w7.heap[Z.heap.size]? = some BR0):=(hq.2.2.2.2.2.block _ (qL HA6.out) (by simp;omega)).trans HA6.out;obtain ⟨g0,g1,g2,g3,g4,g5,g6,g7,g8,g9⟩:=rp_of HA7.out;have gg:=fr_at HA7.out;clear hq
     first | (refine hK _ _ ?_;clear hK K) | skip
     try simp only [qS]
     refine qU 7 fun K hK=>?_
     go_simp
     (try go_wp2_with fail)
     first | (refine hK _ _ ?_;clear hK K) | skip
     try simp only [qS]
     refine wpAny_done (by kernel_rfl) ?_ _;have hq:=HQ7.out;have hbw:Bw w w5:=HBZ.out.trans ((HB5.out).mono HBZ.out.size);have hR0:Aft S w n2 n3 tb (.slice sp sn sc) (dn + 1) cl c DR DT DO (.slice ep en ec) (.slice up un uc) (.slice op on oc) L' (w7.setCells (Z.heap.size) 0 (cR DR (.slice ep en ec))) (Z.heap.size):=aft_old (((HB5.out).block _ (by omega)).trans H2Z.out) (((HB5.out).block _ (by omega)).trans H3Z.out) n2t n3t HWT.out (by omega) hbw HA6.out (htZ) hq.1 hq.2.1 hq.2.2.1 hq.2.2.2.1 hq.2.2.2.2.1 hq.2.2.2.2.2;obtain ⟨Y,hY⟩:=qF ((((((((((w7.setCell ⟨Z.heap.size,0,none⟩ (.int .i64 DR.e)).setCell ⟨Z.heap.size,1,none⟩ (.int .i64 DR.no)).setCell ⟨Z.heap.size,2,none⟩ (.int .i64 DR.gen)).setCell ⟨Z.heap.size,3,none⟩ (.int .i64 DR.kind)).setCell ⟨Z.heap.size,4,none⟩ (.int .i64 DR.links)).setCell ⟨Z.heap.size,5,none⟩ (.int .i64 DR.size)).setCell ⟨Z.heap.size,6,none⟩ (.int .i64 DR.stamp)).setCell ⟨Z.heap.size,7,none⟩ (.string DR.data)).setCell ⟨Z.heap.size,8,none⟩ (.slice ep en ec)).setCell ⟨Z.heap.size,9,none⟩ (.int .i64 DR.n));have hY2:Y = w7.setCells (Z.heap.size) 0 (cR DR (.slice ep en ec)):=hY;rw [← hY];rw [← hY2] at hR0;obtain ⟨A,hA⟩:=qF Z.heap.size;rw [← hA] at hR0;rw [← hA];have HR:Hid (Aft S w n2 n3 tb (.slice sp sn sc) (dn + 1) cl c DR DT DO (.slice ep en ec) (.slice up un uc) (.slice op on oc) L' Y A):=hR0;clear hY hY2 hA hR0 hq hbw hsz HQ7 HA7 g0 g1 g2 g3 g4 g5 g6 g7 g8 g9 gg HM5 H15 HB5 HA6;revert HR;revert A Y L' oc on op uc un up ec en ep r;exact hK0.out
   intro r ep en ec up un uc op on oc L' Y A HR;have hD:=HD1.out;subst hD;have hAf:=HR.out;unfold Aft at hAf;obtain ⟨rA,rB,r2,r3,htA,rT,rp,rO,rE,rb⟩:=hAf;have HRA:Hid (Y.heap[A]? = some (BRl DR (.slice ep en ec))):=rA;have HRB:Hid (Y.heap[tb]? = some (BTk (.slice up un uc) (.slice op on oc) (.slice sp sn sc) (dn + 1) cl c)):=rB;have HR3:Hid (Y.heap[n3]? = some BR0):=r3;have HR2:Hid (Y.heap[n2]? = some BS0):=r2;have HWT2:=HWT.out;have HTT:Hid (TabAt (fun b=>(S b/\b < w.heap.size)∨(tb < b/\b≠A)) Y (.slice up un uc) L'):=rT;have HPP:Hid (pl L' = DT):=rp;have HOO:Hid (At Os.EO (fun b=>(S b/\b < w.heap.size)∨(tb < b/\b≠A)) Y (.slice op on oc) DO):=rO;have HEE:Hid (At EE (fun b=>(S b/\b < w.heap.size)∨(tb < b/\b≠A)) Y (.slice ep en ec) DR.ents):=rE;have HBB:Hid (Bw w Y):=rb;obtain ⟨f0,f1,f2,f3⟩:=st_of r2;have ff:=fr_at r2;clear HR rA rB r2 r3 rT rp rO rE rb HDY HCF HKF HTZ H1Z H2Z H3Z HBZ HZT;go_wp2_with fail;refine wp_region_any (by kernel_rfl) ?_;change wpAny _ _ _ _ _ _ _ (World.drew _);refine qV (i:=0) rfl ?_
   try simp only [qS]
   refine qV (i:=1) rfl ?_
   try simp only [qS]
   refine qV (i:=2) rfl ?_
   try simp only [qS]
   have HS:(fun V:World=>V.heap[tb]? = some (BTk (.slice up un uc) (.slice op on oc) (.slice sp sn sc) (dn + 1) cl c)/\V.heap[A]? = some (BRl DR (.slice ep en ec))) Y.drew:=⟨HRB.out,HRA.out⟩;refine Fst.any_of (late:=fun k=>[6].contains k) (S:=fun V:World=>V.heap[tb]? = some (BTk (.slice up un uc) (.slice op on oc) (.slice sp sn sc) (dn + 1) cl c)/\V.heap[A]? = some (BRl DR (.slice ep en ec))) _ _ _ _ ?_;refine Fst.tk (ls:=[6]) (i:=3) (v:=?v11) rfl (Or.inl ⟨by rfl,?h11⟩) HS ?r11
   case h11=>(rintro V ⟨s,-⟩;obtain ⟨s0,s1,s2,s3,-,-,-,-,-,-,-,-,-,-,-⟩:=tk_of s;go_simp;try with_reducible rfl)
   try simp only [qS]
   refine Fst.tk (ls:=[6]) (i:=4) (v:=?v12) rfl (Or.inl ⟨by rfl,?h12⟩) HS ?r12
   case h12=>(rintro V ⟨-,s⟩;obtain ⟨s0,s1,s2,s3,s4,s5,s6,s7,s8,s9⟩:=rp_of s;go_simp;try with_reducible rfl)
   try simp only [qS]
   refine Fst.one (late:=fun k=>[6].contains k) (i:=5) (by kernel_rfl) rfl (fun K hK=>?_)
   go_simp
   (try go_wp2_with fail)
   first | (refine hK _ _ (⟨(setCells_off (A:=n2) (cS (.slice up un uc) (.slice op on oc) (.slice sp sn sc) (dn + 1)) 0 Y.drew (by omega)).trans HRB.out,(setCells_off (A:=n2) (cS (.slice up un uc) (.slice op on oc) (.slice sp sn sc) (dn + 1)) 0 Y.drew (by omega)).trans HRA.out⟩) ?_;clear hK K) | skip
   try simp only [qS]
   clear HS;refine Fst.rest (by kernel_rfl) ?_;have H2P:Hid (Y.heap[n2]? = some BS0):=HR2.out;obtain ⟨Y2,hY2⟩:=qF (((((Y.setCell ⟨n2,0,none⟩ (.slice up un uc)).setCell ⟨n2,1,none⟩ (.slice op on oc)).setCell ⟨n2,2,none⟩ (.slice sp sn sc)).setCell ⟨n2,3,none⟩ (.int .i64 (dn + 1))).drew);rw [← hY2];have hY3:Y2 = (Y.setCells n2 0 (cS (.slice up un uc) (.slice op on oc) (.slice sp sn sc) (dn + 1))).drew:=hY2;have hwn:w.heap.size<=n2/\w.heap.size<=n3:=by have h:=HN.out;omega
   have H3Y:Hid (Y2.heap[n3]? = some BR0):=by show _ = _;rw [hY3];exact (setCells_off (A:=n2) (cS (.slice up un uc) (.slice op on oc) (.slice sp sn sc) (dn + 1)) 0 Y (by omega)).trans HR3.out
   have H2Y:Hid (Y2.heap[n2]? = some (BSt (.slice up un uc) (.slice op on oc) (.slice sp sn sc) (dn + 1))):=by show _ = _;rw [hY3];exact setCells_at (cS (.slice up un uc) (.slice op on oc) (.slice sp sn sc) (dn + 1)) H2P.out rfl
   have HTY:Hid (TabAt (fun b=>(S b/\b < w.heap.size)∨(tb < b/\b≠A)) Y2 (.slice up un uc) L'):=by show TabAt _ _ _ _;rw [hY3];exact setCells_tab (A:=n2) (S:=fun b=>(S b/\b < w.heap.size)∨(tb < b/\b≠A)) (by omega) (cS (.slice up un uc) (.slice op on oc) (.slice sp sn sc) (dn + 1)) 0 Y HTT.out
   have HOY:Hid (At Os.EO (fun b=>(S b/\b < w.heap.size)∨(tb < b/\b≠A)) Y2 (.slice op on oc) DO):=by show At _ _ _ _ _;rw [hY3];exact setCells_ats (A:=n2) (S:=fun b=>(S b/\b < w.heap.size)∨(tb < b/\b≠A)) (by omega) (cS (.slice up un uc) (.slice op on oc) (.slice sp sn sc) (dn + 1)) 0 Y HOO.out
   have HEY:Hid (At EE (fun b=>(S b/\b < w.heap.size)∨(tb < b/\b≠A)) Y2 (.slice ep en ec) DR.ents):=by show At _ _ _ _ _;rw [hY3];exact setCells_ats (A:=n2) (S:=fun b=>(S b/\b < w.heap.size)∨(tb < b/\b≠A)) (by omega) (cS (.slice up un uc) (.slice op on oc) (.slice sp sn sc) (dn + 1)) 0 Y HEE.out
   have HBY:Hid (Bw w Y2):=by show Below _ _ _;rw [hY3];exact bel_drew (setCells_below hwn.1 (cS (.slice up un uc) (.slice op on oc) (.slice sp sn sc) (dn + 1)) 0 Y HBB.out)
   obtain ⟨j0,j1,j2,j3⟩:=st_of H2Y.out;obtain ⟨g0,g1,g2,g3,g4,g5,g6,g7,g8,g9⟩:=rp_of H3Y.out;have gg:=fr_at H3Y.out;clear hY2 hY3 HTT HOO HEE HBB HRA HRB HR3 HR2 H2P f0 f1 f2 f3 ff;refine qU 6 fun K hK=>?_
   go_simp
   (try go_wp2_with fail)
   first | (refine hK _ _ ?_;clear hK K) | skip
   try simp only [qS]
   refine wpAny_done (by kernel_rfl) ?_ _;go_wp2
   (try simp only [Exit.inBlock,Exit.then])
   refine bodyPost_ret (v:=.tuple #[VSt (.slice up un uc) (.slice op on oc) (.slice sp sn sc) (dn + 1),VR DR (.slice ep en ec)]) ?_ rfl ⟨.slice up un uc,.slice op on oc,.slice ep en ec,L',rfl,?_,HPP.out,?_,?_,?_⟩
   ·rw [results_cc rfl]
    go_simp
   ·exact (setCells_tab (A:=n3) (S:=fun b=>(S b/\b < w.heap.size)∨(tb < b/\b≠A)) (by omega) (cR DR (.slice ep en ec)) 0 Y2 HTY.out).imp (fun b hb _=>by rcases hb with h | h;exact .inl h.1;exact .inr (by omega))
   ·exact (setCells_ats (A:=n3) (S:=fun b=>(S b/\b < w.heap.size)∨(tb < b/\b≠A)) (by omega) (cR DR (.slice ep en ec)) 0 Y2 HOY.out).imp (fun b hb _=>by rcases hb with h | h;exact .inl h.1;exact .inr (by omega))
   ·exact (setCells_ats (A:=n3) (S:=fun b=>(S b/\b < w.heap.size)∨(tb < b/\b≠A)) (by omega) (cR DR (.slice ep en ec)) 0 Y2 HEY.out).imp (fun b hb _=>by rcases hb with h | h;exact .inl h.1;exact .inr (by omega))
   ·exact setCells_below hwn.2 (cR DR (.slice ep en ec)) 0 Y2 HBY.out
  ·rw [if_neg hr] at hce;subst hce;have hR:=HDR.out;have hT:=HDT.out;have hO:=HDO.out;rw [if_neg hr] at hR hT hO;have hD:=HD1.out;subst hR hT hO hD;clear hr HDR HDT HDO HD1;go_wp2_with fail;refine wp_region_any (by kernel_rfl) ?_;change wpAny _ _ _ _ _ _ _ (World.drew _);refine qV (i:=1) rfl ?_
   try simp only [qS]
   have HS:(fun V:World=>V.heap[n0]? = some (BSt (.slice ai ni ci) (.slice ao no co) (.slice sp sn sc) (dn + 1))) w3.drew:=H03.out;refine Fst.any_of (late:=fun k=>[3,4].contains k) (S:=fun V:World=>V.heap[n0]? = some (BSt (.slice ai ni ci) (.slice ao no co) (.slice sp sn sc) (dn + 1))) _ _ _ _ ?_;refine Fst.tk (ls:=[3,4]) (i:=0) (v:=?v4) rfl (Or.inl ⟨by rfl,?h4⟩) HS ?r4
   case h4=>(intro V s;obtain ⟨s0,s1,s2,s3⟩:=st_of s;go_simp;try with_reducible rfl)
   try simp only [qS]
   refine Fst.one (late:=fun k=>[3,4].contains k) (i:=2) (by kernel_rfl) rfl (fun K hK=>?_)
   go_simp
   refine (wrong_any (413) _).mono ?_;rintro e w5 ⟨rfl,hb5⟩;have hb55:Bw w3 w5:=undrew hb5;have HB5:Hid (Bw w w5):=HB3.out.trans (hb55.mono HB3.out.size);have HS5:Hid (w5.heap[n0]? = some (BSt (.slice ai ni ci) (.slice ao no co) (.slice sp sn sc) (dn + 1))):=(hb55.block _ (qL H03.out)).trans H03.out;have H25:Hid (w5.heap[n2]? = some BS0):=(hb55.block _ (qL H23.out)).trans H23.out;have H35:Hid (w5.heap[n3]? = some BR0):=(hb55.block _ (qL H33.out)).trans H33.out;have HV5:Hid (TabAt (fun b=>S b/\b < w.heap.size) w5 (.slice ai ni ci) L):=HVX.out.up hb55;have HO5:Hid (At Os.EO (fun b=>S b/\b < w.heap.size) w5 (.slice ao no co) O):=HOX.out.up hb55;obtain ⟨f0,f1,f2,f3⟩:=st_of H25.out;have ff:=fr_at H25.out;obtain ⟨g0,g1,g2,g3,g4,g5,g6,g7,g8,g9⟩:=rp_of H35.out;have gg:=fr_at H35.out;clear hb5 hb55 HS
   (try go_wp2_with fail)
   first | (refine hK _ _ (HS5.out) ?_;clear hK K) | skip
   try simp only [qS]
   refine Fst.rest (by kernel_rfl) ?_;refine qU 3 fun K hK=>?_
   go_simp
   (try go_wp2_with fail)
   first | (refine hK _ _ ?_;clear hK K) | skip
   try simp only [qS]
   refine qU 4 fun K hK=>?_
   go_simp
   (try go_wp2_with fail)
   first | (refine hK _ _ ?_;clear hK K) | skip
   try simp only [qS]
   refine wpAny_done (by kernel_rfl) ?_ _;go_wp2
   (try simp only [Exit.inBlock,Exit.then])
   refine bodyPost_ret (v:=.tuple #[VSt (.slice ai ni ci) (.slice ao no co) (.slice sp sn sc) (dn + 1),VBad (413)]) ?_ rfl ⟨.slice ai ni ci,.slice ao no co,.slice none 0 0,L,rfl,?_,rfl,?_,At.nil,?_⟩
   ·rw [results_cc rfl]
    go_simp
   ·exact fin_tab (cS (.slice ai ni ci) (.slice ao no co) (.slice sp sn sc) (dn + 1)) (cR (Nf.bad (413)) (.slice none 0 0)) HV5.out (fun b hb=>by have h:=HN.out;exact ⟨by omega,by omega,.inl hb.1⟩)
   ·exact fin_at (cS (.slice ai ni ci) (.slice ao no co) (.slice sp sn sc) (dn + 1)) (cR (Nf.bad (413)) (.slice none 0 0)) HO5.out (fun b hb=>by have h:=HN.out;exact ⟨by omega,by omega,.inl hb.1⟩)
   ·have h:=HN.out;exact fin_below (cS (.slice ai ni ci) (.slice ao no co) (.slice sp sn sc) (dn + 1)) (cR (Nf.bad (413)) (.slice none 0 0)) HB5.out (by omega) (by omega)
 ·rw [if_neg hz] at hDD hDR hDT hDO;subst hDD hDR hDT hDO;have hzb:(RE != 0) = true:=by simpa using hz
  go_enter Tryz.func11,Tryz.ntmps11;go_wp2_with fail;rw [← hW,HE3.out,HE2.out,HE1.out,HE0.out];clear hW;refine (nrefuse_any (.slice ai ni ci) (.slice ao no co) sp sn sc dn cl L O W HV.out HOK.out HO.out.wide).mono ?_;rintro e w1 ⟨rfl,hb1⟩;rw [HRE.out];go_wp2_with fail;have HVX:Hid (TabAt (fun b=>S b/\b < w.heap.size) w1 (.slice ai ni ci) L):=HV.out.up hb1;have HOX:Hid (At Os.EO (fun b=>S b/\b < w.heap.size) w1 (.slice ao no co) O):=HO.out.up hb1;have H01:Hid (w1.heap[n0]? = some (BSt (.slice ai ni ci) (.slice ao no co) (.slice sp sn sc) dn)):=(hb1.block _ (by omega)).trans H0.out;have H21:Hid (w1.heap[n2]? = some BS0):=(hb1.block _ (by omega)).trans H2.out;have H31:Hid (w1.heap[n3]? = some BR0):=(hb1.block _ (by omega)).trans H3.out;have HB1:Hid (Bw w w1):=HB0.out.trans (hb1.mono HB0.out.size);clear hb1 HB0 H0 H1 H2 H3 HV HO;refine wp_region_any (by kernel_rfl) ?_;change wpAny _ _ _ _ _ _ _ (World.drew _);refine qV (i:=1) rfl ?_
  try simp only [qS]
  have HS:(fun V:World=>V.heap[n0]? = some (BSt (.slice ai ni ci) (.slice ao no co) (.slice sp sn sc) (dn))) w1.drew:=H01.out;refine Fst.any_of (late:=fun k=>[3,4].contains k) (S:=fun V:World=>V.heap[n0]? = some (BSt (.slice ai ni ci) (.slice ao no co) (.slice sp sn sc) (dn))) _ _ _ _ ?_;refine Fst.tk (ls:=[3,4]) (i:=0) (v:=?v2) rfl (Or.inl ⟨by rfl,?h2⟩) HS ?r2
  case h2=>(intro V s;obtain ⟨s0,s1,s2,s3⟩:=st_of s;go_simp;try with_reducible rfl)
  try simp only [qS]
  refine Fst.one (late:=fun k=>[3,4].contains k) (i:=2) (by kernel_rfl) rfl (fun K hK=>?_)
  go_simp
  refine (wrong_any (RE) _).mono ?_;rintro e w5 ⟨rfl,hb5⟩;have hb55:Bw w1 w5:=undrew hb5;have HB5:Hid (Bw w w5):=HB1.out.trans (hb55.mono HB1.out.size);have HS5:Hid (w5.heap[n0]? = some (BSt (.slice ai ni ci) (.slice ao no co) (.slice sp sn sc) (dn))):=(hb55.block _ (qL H01.out)).trans H01.out;have H25:Hid (w5.heap[n2]? = some BS0):=(hb55.block _ (qL H21.out)).trans H21.out;have H35:Hid (w5.heap[n3]? = some BR0):=(hb55.block _ (qL H31.out)).trans H31.out;have HV5:Hid (TabAt (fun b=>S b/\b < w.heap.size) w5 (.slice ai ni ci) L):=HVX.out.up hb55;have HO5:Hid (At Os.EO (fun b=>S b/\b < w.heap.size) w5 (.slice ao no co) O):=HOX.out.up hb55;obtain ⟨f0,f1,f2,f3⟩:=st_of H25.out;have ff:=fr_at H25.out;obtain ⟨g0,g1,g2,g3,g4,g5,g6,g7,g8,g9⟩:=rp_of H35.out;have gg:=fr_at H35.out;clear hb5 hb55 HS
  (try go_wp2_with fail)
  first | (refine hK _ _ (HS5.out) ?_;clear hK K) | skip
  try simp only [qS]
  refine Fst.rest (by kernel_rfl) ?_;refine qU 3 fun K hK=>?_
  go_simp
  (try go_wp2_with fail)
  first | (refine hK _ _ ?_;clear hK K) | skip
  try simp only [qS]
  refine qU 4 fun K hK=>?_
  go_simp
  (try go_wp2_with fail)
  first | (refine hK _ _ ?_;clear hK K) | skip
  try simp only [qS]
  refine wpAny_done (by kernel_rfl) ?_ _;go_wp2
  (try simp only [Exit.inBlock,Exit.then])
  refine bodyPost_ret (v:=.tuple #[VSt (.slice ai ni ci) (.slice ao no co) (.slice sp sn sc) (dn),VBad (RE)]) ?_ rfl ⟨.slice ai ni ci,.slice ao no co,.slice none 0 0,L,rfl,?_,rfl,?_,At.nil,?_⟩
  ·rw [results_cc rfl]
   go_simp
  ·exact fin_tab (cS (.slice ai ni ci) (.slice ao no co) (.slice sp sn sc) (dn)) (cR (Nf.bad (RE)) (.slice none 0 0)) HV5.out (fun b hb=>by have h:=HN.out;exact ⟨by omega,by omega,.inl hb.1⟩)
  ·exact fin_at (cS (.slice ai ni ci) (.slice ao no co) (.slice sp sn sc) (dn)) (cR (Nf.bad (RE)) (.slice none 0 0)) HO5.out (fun b hb=>by have h:=HN.out;exact ⟨by omega,by omega,.inl hb.1⟩)
  ·have h:=HN.out;exact fin_below (cS (.slice ai ni ci) (.slice ao no co) (.slice sp sn sc) (dn)) (cR (Nf.bad (RE)) (.slice none 0 0)) HB5.out (by omega) (by omega)
end Go.Proofs.YtneojimodomohaaGreat
