/- NChk, EPlain, TPlain, TPlainP, TPlainU, TPlainK, TPlainB, KPlain, as one. -/
import Derived.Lib.IndexBytes
import Derived.Laws.BitsAllLaws
import Derived.Test.YtggoccfddnpelaaGreatR12
namespace Go.Proofs.YtggoccfddnpelaaGreat
open Go.ChangeShapes Go.WideShapes Go.ChangeAt Go.RowKit Go.Deep It
set_option maxRecDepth 100000
abbrev VSt (vi vo vs:Value) (dn:Int):Value:=.agg #[vi,vo,vs,.int .i64 dn]
abbrev BSt (vi vo vs:Value) (dn:Int):Obj:=.cells #[vi,vo,vs,.int .i64 dn] 27
theorem st_of {w:World} {A:Nat} {vi vo vs:Value} {dn:Int} (h:w.heap[A]? = some (BSt vi vo vs dn)) :
    w.cell? ⟨A,0,none⟩ = some vi/\w.cell? ⟨A,1,none⟩ = some vo/\w.cell? ⟨A,2,none⟩ = some vs/\w.cell? ⟨A,3,none⟩ = some (.int .i64 dn):=by
  refine ⟨?_,?_,?_,?_⟩ <;> simp [World.cell?,h]
namespace Nf
def linksAt (L:List Ino) (h:Int × Int):Int:=match L[h.1.toNat]? with | some x=>x.links | none=>0
def needB (L:List Ino) (O:List Os.Opn) (h:Int × Int):Bool:=decide (0 < linksAt L h) || decide (0 < ((Os.Op.held O h.1 h.2:Nat):Int))
def filesOk (L:List Ino) (O:List Os.Opn):Bool:=!(O.any fun x=>!decide ((x.2.2.1,x.2.2.2)∈files L)) && !((files L).any fun h=>!needB L O h)
def doneOk (L:List Ino) (dn:Int):Bool:=decide (0<=dn/\dn<=1099511627776) && !(L.any fun x=>decide (dn < x.stamp))
/-- A state is right. -/
noncomputable def right (L:List Ino) (O:List Os.Opn) (dn:Int):Bool:=Sp.isSp L && (Os.Op.right 0 O && (filesOk L O && (decide (allBytes L<=8192) && doneOk L dn)))
end Nf
set_option maxHeartbeats 2000000 in
theorem needed_any {S:Nat->Prop} (vi vo:Value) (sp:Option Addr) (sn sc:Nat) (dn:Int) (L:List Rw) (O:List Os.Opn) (no gen:Int) (w:World) (hv:TabAt S w vi L) (ho:AtW Os.EO w vo O) (hn:names (pl L) no gen = true) :
    Calls Tryz.prog 96 #[VSt vi vo (.slice sp sn sc) dn,.agg #[.int .i64 no,.int .i64 gen]] w fun e w'=>e = .returned (.bool (Nf.needB (pl L) O (no,gen)))/\Below w.heap.size w w':=by
  obtain ⟨k,x,hx,hno,-,-⟩:=names_iff.1 hn
  obtain ⟨y,hy,hyi⟩:=Sp.pl_some hx
  have hf:Nf.needB (pl L) O (no,gen) = (decide (0 < y.i.links) || decide (0 < ((Os.Op.held O no gen:Nat):Int))):=by
    unfold Nf.needB Nf.linksAt
    rw [hno,show ((k:Int),gen).1.toNat = k by show ((k:Int)).toNat = k;omega,hx,hyi]
  rw [hf]
  obtain ⟨W,hW⟩:∃ W,W = (w.alloc (BSt vi vo (.slice sp sn sc) dn)).alloc (BH no gen):=⟨_,rfl⟩
  have HB0:Hid (Below w.heap.size w W):=by show Below w.heap.size w W;rw [hW];exact ((Below.refl _ w).alloc (Nat.le_refl _) _).alloc (by simp) _
  have HO:Hid (AtW Os.EO W vo O):=ho.up HB0.out
  have HA0:Hid (W.heap[w.heap.size]? = some (BSt vi vo (.slice sp sn sc) dn)/\W.heap[w.heap.size + 1]? = some (BH no gen)):=by
    rw [hW]
    refine ⟨(Below.heap_alloc _ _ _ (by simp)).trans (heap_alloc_new _ _),?_⟩
    have:=heap_alloc_new (w.alloc (BSt vi vo (.slice sp sn sc) dn)) (BH no gen)
    rwa [show (w.alloc (BSt vi vo (.slice sp sn sc) dn)).heap.size = w.heap.size + 1 by simp] at this
  obtain ⟨ao,cap,rfl,hm,hxx⟩:=hv.open
  obtain ⟨⟨b,off,rfl,hB,c0,c1,c2,c3,c4,c5,c6,c7⟩,-⟩:=hxx k y hy
  obtain ⟨oo,oc,rfl,-,-⟩:=ho.open
  have hkl:(k:Int) < (L.length:Int):=by have:=(List.getElem?_eq_some_iff.1 hy).1;omega
  subst hno
  obtain ⟨lk,hlk⟩:∃ lk,y.i.links = lk:=⟨_,rfl⟩
  rw [hlk] at c2 ⊢
  obtain ⟨n,hn'⟩:∃ n,L.length = n:=⟨_,rfl⟩
  obtain ⟨m,hm'⟩:∃ m,O.length = m:=⟨_,rfl⟩
  rw [hn'] at hkl HA0 hW ⊢
  rw [hm'] at HA0 hW HO ⊢
  obtain ⟨a0,a1,a2,a3⟩:=st_of HA0.out.1
  obtain ⟨⟨h0,h1⟩,-⟩:=two_of HA0.out.2
  have hl0:=(Array.getElem?_eq_some_iff.1 HA0.out.1).1
  have hl1:=(Array.getElem?_eq_some_iff.1 HA0.out.2).1
  clear hv hxx hn hx hyi hf hm ho c0 c1 c3 c4 c5 c6 c7 hlk
  by_cases hp:0 < lk
  · rw [decide_eq_true hp]
    go_enter Tryz.func96,Tryz.ntmps96
    go_wp2
    go_ret
    refine ⟨rfl,?_⟩
    have h:=HB0.out
    rw [hW] at h
    exact h
  · rw [decide_eq_false hp]
    obtain ⟨q,hq⟩:∃ q:Nat,Os.Op.held O (k:Int) gen = q:=⟨_,rfl⟩
    have HQ:Hid (Os.Op.held O (k:Int) gen = q):=hq
    rw [hq]
    clear hq
    go_enter Tryz.func96,Tryz.ntmps96
    go_wp2_with fail
    rw [← hW]
    refine (Os.held_any _ O (k:Int) gen _ HO.out).mono ?_
    rintro e w1 ⟨rfl,hb1⟩
    rw [HQ.out]
    have HB1:Hid (Below w.heap.size w w1):=HB0.out.trans (hb1.mono HB0.out.size)
    clear hb1
    go_wp2
    go_ret
    exact ⟨by simp,HB1.out⟩
set_option maxHeartbeats 2000000 in
theorem rf1_any (u:Value) (U:List (Int × Int)) (x:Os.Opn) (A:Nat) (w:World) (hu:AtW EH w u U) (hA:w.heap[A]? = some (BSl u 142)) :
    Calls Tryz.prog 93 #[.agg #[.int .i64 x.1,.int .i64 x.2.1,.int .i64 x.2.2.1,.int .i64 x.2.2.2],.pointer (some ⟨A,0,none⟩)] w fun e w'=>e = .returned (.bool (!decide ((x.2.2.1,x.2.2.2)∈U)))/\Below w.heap.size w w':=by
  obtain ⟨x0,x1,x2,x3⟩:=x
  have hA0:=sl_of hA
  have hAl:=(Array.getElem?_eq_some_iff.1 hA).1
  have HU:Hid (AtW EH (w.alloc (Os.BO (x0,x1,x2,x3))) u U):=hu.up ((Below.refl _ _).alloc (Nat.le_refl _) _)
  obtain ⟨p,c,rfl,-,-⟩:=hu.open
  obtain ⟨r,hr⟩:∃ r,decide ((x2,x3)∈U) = r:=⟨_,rfl⟩
  have HR:Hid (decide ((x2,x3)∈U) = r):=hr
  simp only
  rw [hr]
  obtain ⟨n,hn⟩:∃ n,U.length = n:=⟨_,rfl⟩
  rw [hn] at hA0 HU
  clear hu hA hr hn
  go_enter Tryz.func93,Tryz.ntmps93
  go_wp2_with fail
  refine (contains_any _ U x2 x3 _ HU.out).mono ?_
  rintro e w1 ⟨rfl,hb1⟩
  rw [HR.out]
  have HB1:Hid (Below w.heap.size w w1):=((Below.refl _ w).alloc (Nat.le_refl _) _).trans (hb1.mono (by simp))
  clear hb1
  go_wp2
  go_ret
  exact ⟨rfl,HB1.out⟩
set_option maxHeartbeats 2000000 in
theorem rf2_any {S:Nat->Prop} (vi vo:Value) (sp:Option Addr) (sn sc:Nat) (dn:Int) (L:List Rw) (O:List Os.Opn) (no gen:Int) (A:Nat) (w:World) (hv:TabAt S w vi L) (ho:AtW Os.EO w vo O) (hn:names (pl L) no gen = true) (hA:w.heap[A]? = some (BSt vi vo (.slice sp sn sc) dn)) :
    Calls Tryz.prog 95 #[.agg #[.int .i64 no,.int .i64 gen],.pointer (some ⟨A,0,none⟩)] w fun e w'=>e = .returned (.bool (!Nf.needB (pl L) O (no,gen)))/\Below w.heap.size w w':=by
  have hAl:=(Array.getElem?_eq_some_iff.1 hA).1
  have hb0:Below w.heap.size w (w.alloc (BH no gen)):=(Below.refl _ _).alloc (Nat.le_refl _) _
  obtain ⟨a0,a1,a2,a3⟩:=st_of hA
  have HC:Hid (Calls Tryz.prog 96 #[VSt vi vo (.slice sp sn sc) dn,.agg #[.int .i64 no,.int .i64 gen]] (w.alloc (BH no gen)) fun e w'=>e = .returned (.bool (Nf.needB (pl L) O (no,gen)))/\Below (w.alloc (BH no gen)).heap.size (w.alloc (BH no gen)) w'):=needed_any vi vo sp sn sc dn L O no gen _ (hv.up hb0) (ho.up hb0) hn
  obtain ⟨p,c,rfl,-,-⟩:=hv.open
  obtain ⟨q,d,rfl,-,-⟩:=ho.open
  obtain ⟨r,hr⟩:∃ r,Nf.needB (pl L) O (no,gen) = r:=⟨_,rfl⟩
  rw [hr] at HC ⊢
  obtain ⟨n,hn'⟩:∃ n,L.length = n:=⟨_,rfl⟩
  obtain ⟨m,hm'⟩:∃ m,O.length = m:=⟨_,rfl⟩
  rw [hn'] at a0 HC
  rw [hm'] at a1 HC
  clear hv ho hn hA hb0 hr hn' hm'
  go_enter Tryz.func95,Tryz.ntmps95
  go_wp2_with fail
  refine HC.out.mono ?_
  rintro e w1 ⟨rfl,hb1⟩
  have HB1:Hid (Below w.heap.size w w1):=((Below.refl _ w).alloc (Nat.le_refl _) _).trans (hb1.mono (by simp))
  clear hb1 HC
  go_wp2
  go_ret
  exact ⟨rfl,HB1.out⟩
theorem Nf.files_named {L:List Ino} {h:Int × Int} (hm:h∈Nf.files L):names L h.1 h.2 = true:=mem_used.1 (List.mem_filter.1 hm).1
set_option maxHeartbeats 4000000 in
theorem rightFiles_any {S:Nat->Prop} (vi vo:Value) (sp:Option Addr) (sn sc:Nat) (dn:Int) (L:List Rw) (O:List Os.Opn) (w:World) (hv:TabAt S w vi L) (ho:AtW Os.EO w vo O) (hL:L.length<=24) :
    Calls Tryz.prog 64 #[VSt vi vo (.slice sp sn sc) dn] w fun e w'=>e = .returned (.bool (Nf.filesOk (pl L) O))/\Below w.heap.size w w':=by
  have HV:Hid (TabAt S w vi L):=hv
  have HO:Hid (AtW Os.EO w vo O):=ho
  have HL:Hid (L.length<=24):=hL
  obtain ⟨W,hW⟩:∃ W,W = w.alloc (BSt vi vo (.slice sp sn sc) dn):=⟨_,rfl⟩
  have HB0:Hid (Below w.heap.size w W):=by show Below w.heap.size w W;rw [hW];exact (Below.refl _ w).alloc (Nat.le_refl _) _
  have HA0:Hid (W.heap[w.heap.size]? = some (BSt vi vo (.slice sp sn sc) dn)):=by show W.heap[w.heap.size]? = _;rw [hW];exact heap_alloc_new _ _
  have hla:=(Array.getElem?_eq_some_iff.1 HA0.out).1
  obtain ⟨p,c,rfl,-,-⟩:=hv.open
  obtain ⟨q,d,rfl,-,-⟩:=ho.open
  obtain ⟨n,hn'⟩:∃ n,L.length = n:=⟨_,rfl⟩
  obtain ⟨m,hm'⟩:∃ m,O.length = m:=⟨_,rfl⟩
  rw [hn'] at HV HA0 hW ⊢
  rw [hm'] at HO HA0 hW ⊢
  obtain ⟨r1,hr1⟩:∃ r,(O.any fun x=>!decide ((x.2.2.1,x.2.2.2)∈Nf.files (pl L))) = r:=⟨_,rfl⟩
  obtain ⟨r2,hr2⟩:∃ r,((Nf.files (pl L)).any fun h=>!Nf.needB (pl L) O h) = r:=⟨_,rfl⟩
  have hE:Nf.filesOk (pl L) O = (!r1 && !r2):=by unfold Nf.filesOk;rw [hr1,hr2]
  rw [hE]
  have HR:Hid ((O.any fun x=>!decide ((x.2.2.1,x.2.2.2)∈Nf.files (pl L))) = r1/\((Nf.files (pl L)).any fun h=>!Nf.needB (pl L) O h) = r2):=⟨hr1,hr2⟩
  obtain ⟨a0,a1,a2,a3⟩:=st_of HA0.out
  clear hv ho hL hn' hm' hr1 hr2 hE
  go_enter Tryz.func64,Tryz.ntmps64
  go_wp2_with fail
  rw [← hW]
  clear hW a0 a1 a2 a3
  refine (files_any _ L _ (HV.out.up HB0.out) HL.out).mono ?_
  rintro e w1 ⟨u1,rfl,hu1,hb1⟩
  obtain ⟨W1,hW1⟩:∃ W1,W1 = w1.alloc (BSl u1 142):=⟨_,rfl⟩
  have bw1:Below w1.heap.size w1 W1:=by rw [hW1];exact (Below.refl _ _).alloc (Nat.le_refl _) _
  have bn1:Below W.heap.size W W1:=hb1.trans (bw1.mono hb1.size)
  have HB1:Hid (Below w.heap.size w W1):=HB0.out.trans (bn1.mono HB0.out.size)
  have HX1:Hid (W1.heap[w1.heap.size]? = some (BSl u1 142)):=by show W1.heap[w1.heap.size]? = _;rw [hW1];exact heap_alloc_new _ _
  have HY1:Hid (w1.heap[w.heap.size]? = some (BSt (.slice p n c) (.slice q m d) (.slice sp sn sc) dn)):=(hb1.block _ hla).trans HA0.out
  have HA1:Hid (W1.heap[w.heap.size]? = some (BSt (.slice p n c) (.slice q m d) (.slice sp sn sc) dn)):=(bn1.block _ hla).trans HA0.out
  have HU1:Hid (AtW EH W1 u1 (Nf.files (pl L))):=hu1.up bw1
  obtain ⟨pu,cu,hsl,-,-⟩:=hu1.open
  obtain ⟨k,hk⟩:∃ k,(Nf.files (pl L)).length = k:=⟨_,rfl⟩
  rw [hk] at hsl
  subst hsl
  have hly1:=(Array.getElem?_eq_some_iff.1 HY1.out).1
  have hla1:=(Array.getElem?_eq_some_iff.1 HA1.out).1
  have hlx1:=(Array.getElem?_eq_some_iff.1 HX1.out).1
  obtain ⟨a0,a1,a2,a3⟩:=st_of HY1.out
  clear hu1 hb1 bw1 bn1 hk
  go_wp2_with fail
  rw [← hW1]
  clear hW1 a0 a1 a2 a3
  refine (conNo _ O (fun x=>!decide ((x.2.2.1,x.2.2.2)∈Nf.files (pl L))) w1.heap.size _ (HO.out.up HB1.out) (fun x hx V hb=>rf1_any _ (Nf.files (pl L)) x w1.heap.size V (HU1.out.up hb) ((hb.block _ hlx1).trans HX1.out))).mono ?_
  rintro e w2 ⟨rfl,hb2⟩
  rw [HR.out.1]
  have HB2:Hid (Below w.heap.size w w2):=HB1.out.trans (hb2.mono HB1.out.size)
  have HX2:Hid (w2.heap[w1.heap.size]? = some (BSl (.slice pu k cu) 142)):=(hb2.block _ hlx1).trans HX1.out
  have HA2:Hid (w2.heap[w.heap.size]? = some (BSt (.slice p n c) (.slice q m d) (.slice sp sn sc) dn)):=(hb2.block _ hla1).trans HA1.out
  have HU2:Hid (AtW EH w2 (.slice pu k cu) (Nf.files (pl L))):=HU1.out.up hb2
  have hla2:=(Array.getElem?_eq_some_iff.1 HA2.out).1
  clear hb2
  cases r1 with
  | true =>
    go_wp2
    go_ret
    exact ⟨rfl,HB2.out⟩
  | false =>
    have x0:=sl_of HX2.out
    go_wp2_with fail
    refine (conUn _ (Nf.files (pl L)) (fun h=>!Nf.needB (pl L) O h) w.heap.size _ HU2.out (fun x hx V hb=>rf2_any _ _ sp sn sc dn L O x.1 x.2 w.heap.size V ((HV.out.up HB2.out).up hb) ((HO.out.up HB2.out).up hb) (Nf.files_named hx) ((hb.block _ hla2).trans HA2.out))).mono ?_
    rintro e w3 ⟨rfl,hb3⟩
    rw [HR.out.2]
    have HB3:Hid (Below w.heap.size w w3):=HB2.out.trans (hb3.mono HB2.out.size)
    clear hb3
    go_wp2
    go_ret
    exact ⟨by simp,HB3.out⟩
set_option maxHeartbeats 1000000 in
theorem nwithin_any (lo x hi:Int) (w:World):Calls Tryz.prog 101 #[.int .i64 lo,.int .i64 x,.int .i64 hi] w fun e w'=>e = .returned (.bool (decide (lo<=x/\x<=hi)))/\w' = w:=by
  by_cases h1:lo<=x
  · by_cases h2 : x ≤ hi
    · rw [decide_eq_true ⟨h1, h2⟩]
      go_enter Tryz.func101,Tryz.ntmps101
      go_wp2
      go_ret
      exact ⟨rfl,rfl⟩
    · rw [decide_eq_false (fun h => h2 h.2)]
      go_enter Tryz.func101,Tryz.ntmps101
      go_wp2
      go_ret
      exact ⟨rfl,rfl⟩
  · rw [decide_eq_false (fun h => h1 h.1)]
    go_enter Tryz.func101,Tryz.ntmps101
    go_wp2
    go_ret
    exact ⟨rfl,rfl⟩
set_option maxHeartbeats 2000000 in
theorem rd1_any (vi vo vs:Value) (dn:Int) (x:Rw) (A:Nat) (w:World) (hA:w.heap[A]? = some (BSt vi vo vs dn)) :
    Calls Tryz.prog 100 #[VI x,.pointer (some ⟨A,0,none⟩)] w fun e w'=>e = .returned (.bool (decide (dn < x.i.stamp)))/\Below w.heap.size w w':=by
  have hAl:=(Array.getElem?_eq_some_iff.1 hA).1
  obtain ⟨a0,a1,a2,a3⟩:=st_of hA
  go_enter Tryz.func100,Tryz.ntmps100
  go_wp2
  go_ret
  exact ⟨rfl,(Below.refl _ _).alloc (Nat.le_refl _) _⟩
theorem tab_at {S:Nat->Prop} {w:World} {v:Value} {L:List Rw} (h:TabAt S w v L):AtW EI w v L:=h.1.wide
set_option maxHeartbeats 2000000 in
theorem rightDone_any {S:Nat->Prop} (vi:Value) (op:Option Addr) (on oc:Nat) (sp:Option Addr) (sn sc:Nat) (dn:Int) (L:List Rw) (w:World) (hv:TabAt S w vi L) :
    Calls Tryz.prog 66 #[VSt vi (.slice op on oc) (.slice sp sn sc) dn] w fun e w'=>e = .returned (.bool (Nf.doneOk (pl L) dn))/\Below w.heap.size w w':=by
  have HV:Hid (TabAt S w vi L):=hv
  obtain ⟨W,hW⟩:∃ W,W = w.alloc (BSt vi (.slice op on oc) (.slice sp sn sc) dn):=⟨_,rfl⟩
  have HB0:Hid (Below w.heap.size w W):=by show Below w.heap.size w W;rw [hW];exact (Below.refl _ w).alloc (Nat.le_refl _) _
  have HA0:Hid (W.heap[w.heap.size]? = some (BSt vi (.slice op on oc) (.slice sp sn sc) dn)):=by show W.heap[w.heap.size]? = _;rw [hW];exact heap_alloc_new _ _
  have hla:=(Array.getElem?_eq_some_iff.1 HA0.out).1
  obtain ⟨p,c,rfl,-,-⟩:=hv.open
  obtain ⟨n,hn'⟩:∃ n,L.length = n:=⟨_,rfl⟩
  rw [hn'] at HV HA0 hW ⊢
  obtain ⟨r1,hr1⟩:∃ r,decide (0<=dn/\dn<=1099511627776) = r:=⟨_,rfl⟩
  obtain ⟨r2,hr2⟩:∃ r,(L.any fun x=>decide (dn < x.i.stamp)) = r:=⟨_,rfl⟩
  have hE:Nf.doneOk (pl L) dn = (r1 && !r2):=by
    unfold Nf.doneOk
    rw [hr1,List.any_map]
    have e:(L.any ((fun x=>decide (dn < x.stamp)) ∘ Rw.i)) = r2:=hr2
    rw [e]
  rw [hE]
  have HR:Hid (decide (0<=dn/\dn<=1099511627776) = r1/\(L.any fun x=>decide (dn < x.i.stamp)) = r2):=⟨hr1,hr2⟩
  obtain ⟨a0,a1,a2,a3⟩:=st_of HA0.out
  clear hv hn' hr1 hr2 hE
  go_enter Tryz.func66,Tryz.ntmps66
  go_wp2_with fail
  rw [← hW]
  clear hW
  refine (nwithin_any _ _ _ _).mono ?_
  rintro e w1 ⟨rfl,hw1⟩
  obtain rfl:W = w1:=hw1.symm
  clear hw1
  rw [HR.out.1]
  cases r1 with
  | false =>
    go_wp2
    go_ret
    exact ⟨rfl,HB0.out⟩
  | true =>
    go_wp2_with fail
    refine (conLa _ L (fun x=>decide (dn < x.i.stamp)) w.heap.size _ (tab_at (HV.out.up HB0.out)) (fun x hx V hb=>rd1_any _ _ _ dn x w.heap.size V ((hb.block _ hla).trans HA0.out))).mono ?_
    rintro e w2 ⟨rfl,hb2⟩
    rw [HR.out.2]
    have HB2:Hid (Below w.heap.size w w2):=HB0.out.trans (hb2.mono HB0.out.size)
    clear hb2
    go_wp2
    go_ret
    exact ⟨by simp,HB2.out⟩
end Go.Proofs.YtggoccfddnpelaaGreat
namespace Go.Proofs.YtggoccfddnpelaaGreat.Es
open Go.RowKit
set_option maxRecDepth 100000
/-- A seat: the client, its last request, the reply. -/
abbrev Sea:=Int × Int × ByteArray
def ES:Enc Sea:=⟨3,fun x=>[.int .i64 x.1,.int .i64 x.2.1,.string x.2.2],fun _=>rfl,fun x u hu=>by
  simp at hu
  rcases hu with rfl | rfl | rfl <;> rfl⟩
namespace Se
/-- A client that may be. -/
def Cl (c:Int):Prop:=0<=c/\c<=1099511627776
instance (c:Int):Decidable (Cl c):=by unfold Cl;infer_instance
/-- A request's number that may be. -/
def Rq (r:Int):Prop:=1<=r/\r<=1099511627776
instance (r:Int):Decidable (Rq r):=by unfold Rq;infer_instance
def good (t:Int) (x:Sea):Prop:=(t<=x.1/\x.1<=1099511627776)/\Rq x.2.1/\x.2.2.size<=8192
instance (t:Int) (x:Sea):Decidable (good t x):=by unfold good;infer_instance
def right (t:Int):List Sea->Bool
  | []=>true
  | x :: r=>decide (good t x) && right (x.1 + 1) r
def ok (l:List Sea):Bool:=decide (l.length<=6) && right 0 l
theorem drop_at {α:Type} {l:List α} {k:Nat} {x:α} (h:l[k]? = some x):l.drop k = x :: l.drop (k + 1):=by
  obtain ⟨hk,rfl⟩:=List.getElem?_eq_some_iff.1 h
  exact List.drop_eq_getElem_cons hk
theorem right_yes {l:List Sea} {k:Nat} {x:Sea} {t:Int} (h:l[k]? = some x) (hg:good t x):right t (l.drop k) = right (x.1 + 1) (l.drop (k + 1)):=by
  rw [drop_at h]
  simp [right,hg]
theorem right_no {l:List Sea} {k:Nat} {x:Sea} {t:Int} (h:l[k]? = some x) (hg:¬ good t x):right t (l.drop k) = false:=by
  rw [drop_at h]
  simp [right,hg]
theorem right_end {l:List Sea} {k:Nat} {t:Int} (h:k = l.length):right t (l.drop k) = true:=by
  rw [h,List.drop_length]
  rfl
theorem right_iff : ∀ (l : List Sea) (t : Int), right t l = true ↔ (∀ x ∈ l, good t x) ∧ l.Pairwise (fun x y => x.1 < y.1)
  | [],t=>by simp [right]
  | y :: r, t => by
    rw [right,Bool.and_eq_true,decide_eq_true_iff,right_iff r,List.pairwise_cons]
    constructor
    · rintro ⟨h1, h2, h3⟩
      refine ⟨fun x hx=>?_,fun x hx=>?_,h3⟩
      · rcases List.mem_cons.1 hx with rfl | hx
        · exact h1
        · have := h2 x hx
          have h1':=h1.1.1
          have h2':=this.1.1
          exact ⟨⟨by omega,this.1.2⟩,this.2⟩
      · have := (h2 x hx).1.1
        omega
    · rintro ⟨h1, h2, h3⟩
      refine ⟨h1 y (by simp),fun x hx=>?_,h3⟩
      have:=h1 x (by simp [hx])
      have h4:=h2 x hx
      exact ⟨⟨by omega,this.1.2⟩,this.2⟩
abbrev Sorted (l:List Sea):Prop:=l.Pairwise (fun x y=>x.1 < y.1)
theorem ok_iff (l:List Sea):ok l = true ↔ l.length<=6/\(∀ x∈l,good 0 x)/\Sorted l:=by
  unfold ok
  rw [Bool.and_eq_true,decide_eq_true_iff,right_iff]
/-- A client's seat. -/
def seat (l:List Sea) (c:Int):Option Sea:=l.find? fun x=>x.1 == c
/-- What is wrong with seats or a client. -/
def cErr (l:List Sea) (c:Int):Int:=if ok l = true then (if Cl c then 0 else 1) else 4
/-- What is wrong with seats, a client or a request. -/
def rErr (l:List Sea) (c r:Int):Int:=if cErr l c = 0 then (if Rq r then 0 else 1) else cErr l c
/-- What a request is. -/
def what (l:List Sea) (c r:Int):Int:=if rErr l c r = 0 then (match seat l c with | none=>if l.length = 6 then 4 else 1 | some x=>if x.2.1 < r then 1 else if r < x.2.1 then 3 else 2) else 0
def putErr (l:List Sea) (c r:Int) (s:ByteArray):Int:=if rErr l c r = 0 then (if 8192 < s.size then 2 else if what l c r = 4 then 412 else if what l c r = 1 then 0 else 7) else rErr l c r
def put (l:List Sea) (c r:Int) (s:ByteArray):List Sea:=if putErr l c r s = 0 then l.filter (fun x=>decide (x.1 < c)) ++ [(c,r,s)] ++ l.filter (fun x=>decide (c < x.1)) else []
def dropErr (l:List Sea) (c:Int):Int:=if cErr l c = 0 then (match seat l c with | none=>6 | some _=>0) else cErr l c
end Se
end Go.Proofs.YtggoccfddnpelaaGreat.Es
namespace Go.Proofs.YtggoccfddnpelaaGreat.Ks
set_option maxRecDepth 100000
namespace Pl
/-- The last k bytes of m, big end first. -/
def digits (k m:Nat):List UInt8:=(List.range k).map fun j=>UInt8.ofNat (m / 256 ^ (k - 1 - j) % 256)
theorem digits_zero (m:Nat):digits 0 m = []:=rfl
theorem digits_length (k m:Nat):(digits k m).length = k:=by simp [digits]
theorem digits_succ (k m:Nat):digits (k + 1) m = UInt8.ofNat (m / 256 ^ k % 256) :: digits k m:=by
  unfold digits
  rw [List.range_succ_eq_map,List.map_cons,List.map_map]
  congr 1
  apply List.map_congr_left
  intro j hj
  have:=List.mem_range.1 hj
  simp only [Function.comp,Nat.succ_eq_add_one]
  rw [show k + 1 - 1 - (j + 1) = k - 1 - j from by omega]
def txt (l:List UInt8):ByteArray:=⟨l.toArray⟩
theorem txt_toList (s:ByteArray):txt s.data.toList = s:=by cases s;simp [txt]
theorem txt_data (l:List UInt8):(txt l).data.toList = l:=by simp [txt]
theorem txt_size (l:List UInt8):(txt l).size = l.length:=by simp [txt,ByteArray.size]
theorem txt_append (a b:List UInt8):txt a ++ txt b = txt (a ++ b):=ByteArray.mk_append_mk a b
/-- What Num answers: the text, and the error's number. -/
def numBad (n size:Int):Bool:=decide (size < 1∨8 < size∨n < 0) || decide (n.toNat / 256 ^ size.toNat≠0)
def numOut (n size:Int):ByteArray:=if numBad n size then txt [] else txt (digits size.toNat n.toNat)
def numErr (n size:Int):Int:=if numBad n size then 1 else 0
theorem div_step (n:Int) (k:Nat):(((n.toNat / 256 ^ k:Nat):Int)) / 256 = ((n.toNat / 256 ^ (k + 1):Nat):Int):=by
  rw [Nat.pow_succ,← Nat.div_div_eq_div_mul];omega
/-- The number that bytes are. -/
def numOf (l:List UInt8):Nat:=l.foldl (fun n b=>256 * n + b.toNat) 0
theorem numOf_snoc (l:List UInt8) (b:UInt8):numOf (l ++ [b]) = 256 * numOf l + b.toNat:=by simp [numOf]
theorem numOf_lt_acc (l:List UInt8):∀ a:Nat,l.foldl (fun n b=>256 * n + b.toNat) a < (a + 1) * 256 ^ l.length:=by
  induction l with
  | nil=>intro a;simp
  | cons b l ih =>
    intro a
    have h:=ih (256 * a + b.toNat)
    have hb:=b.toNat_lt
    rw [List.foldl_cons,List.length_cons]
    have h2:(256 * a + b.toNat + 1) * 256 ^ l.length<=(256 * (a + 1)) * 256 ^ l.length:=Nat.mul_le_mul_right _ (by omega)
    have h3:(256 * (a + 1)) * 256 ^ l.length = (a + 1) * 256 ^ (l.length + 1):=by rw [Nat.pow_succ,Nat.mul_comm 256 (a + 1),Nat.mul_assoc,Nat.mul_comm 256]
    omega
theorem numOf_lt (l:List UInt8):numOf l < 256 ^ l.length:=by have:=numOf_lt_acc l 0;simpa [numOf] using this
def sNum (s:ByteArray):Bool:=decide (s.size < 1∨8 < s.size)
def fNum (s:ByteArray):Bool:=decide (s.size = 8) && decide (128<=(s.data.toList.headD 0).toNat)
def numVal (s:ByteArray):Int:=if sNum s || fNum s then 0 else numOf s.data.toList
def numberErr (s:ByteArray):Int:=if sNum s then 1 else if fNum s then 4 else 0
end Pl
namespace Pl
def badAt (last:Int) (x:Int × ByteArray):Int:=if x.1 < 1∨255 < x.1 then 1 else if 65535 < x.2.size then 2 else if x.1 < last then 11 else 0
def packErr:Int->List (Int × ByteArray)->Int
  | _,[]=>0
  | last,x :: l=>if badAt last x = 0 then packErr x.1 l else badAt last x
def encOne (x:Int × ByteArray):List UInt8:=[UInt8.ofNat x.1.toNat,UInt8.ofNat (x.2.size / 256),UInt8.ofNat (x.2.size % 256)] ++ x.2.data.toList
def encs (l:List (Int × ByteArray)):List UInt8:=l.flatMap encOne
def packOut (l:List (Int × ByteArray)):ByteArray:=if packErr 1 l = 0 then txt (encs l) else txt []
def lastAt (last:Int) (l:List (Int × ByteArray)) (k:Nat):Int:=if k = 0 then last else (l.getD (k - 1) (0,.empty)).1
def okTo (last:Int) (l:List (Int × ByteArray)) (k:Nat):Prop:=∀ i,i < k->i < l.length->badAt (lastAt last l i) (l.getD i (0,.empty)) = 0
theorem lastAt_cons (last:Int) (x:Int × ByteArray) (l:List (Int × ByteArray)) (k:Nat):lastAt last (x :: l) (k + 1) = lastAt x.1 l k:=by
  unfold lastAt
  match k with
  | 0=>simp
  | k + 1=>simp
theorem packErr_at:∀ (l:List (Int × ByteArray)) (last:Int) (k:Nat),k < l.length->okTo last l k->badAt (lastAt last l k) (l.getD k (0,.empty))≠0->packErr last l = badAt (lastAt last l k) (l.getD k (0,.empty))
  | [],_,k,hk,_,_=>by simp at hk
  | x :: l, last, 0, _, _, hb => by
    simp only [lastAt,List.getD_cons_zero,if_true] at hb ⊢
    simp only [packErr,if_neg hb]
  | x :: l, last, k + 1, hk, hok, hb => by
    have h0:=hok 0 (by omega) (by simp)
    simp only [lastAt,List.getD_cons_zero,if_true] at h0
    rw [lastAt_cons,List.getD_cons_succ] at hb ⊢
    simp only [packErr,if_pos h0]
    refine packErr_at l x.1 k (by simpa using hk) (fun i hi hl=>?_) hb
    have:=hok (i + 1) (by omega) (by simpa using hl)
    rwa [lastAt_cons,List.getD_cons_succ] at this
theorem packErr_ok:∀ (l:List (Int × ByteArray)) (last:Int),okTo last l l.length->packErr last l = 0
  | [],_,_=>rfl
  | x :: l, last, hok => by
    have h0:=hok 0 (by simp) (by simp)
    simp only [lastAt,List.getD_cons_zero,if_true] at h0
    simp only [packErr,if_pos h0]
    refine packErr_ok l x.1 (fun i hi hl=>?_)
    have:=hok (i + 1) (by simpa using hi) (by simpa using hl)
    rwa [lastAt_cons,List.getD_cons_succ] at this
theorem okTo_succ {last:Int} {l:List (Int × ByteArray)} {k:Nat} (h:okTo last l k) (hk:badAt (lastAt last l k) (l.getD k (0,.empty)) = 0):okTo last l (k + 1):=by
  intro i hi hl
  by_cases e:i = k
  · subst e;exact hk
  · exact h i (by omega) hl
theorem lastAt_succ {last:Int} {l:List (Int × ByteArray)} {k:Nat} {x:Int × ByteArray} (h:l.getD k (0,.empty) = x):lastAt last l (k + 1) = x.1:=by
  simp only [lastAt,Nat.add_sub_cancel,h]
  simp
theorem pack_bad {l:List (Int × ByteArray)} {k:Nat} {e la:Int} {x:Int × ByteArray} (hk:k < l.length) (hok:okTo 1 l k) (hl:lastAt 1 l k = la) (hx:l.getD k (0,.empty) = x) (hb:badAt la x = e) (he:e≠0):packOut l = txt []/\packErr 1 l = e:=by
  have h:=packErr_at l 1 k hk hok (by rw [hl,hx,hb];exact he)
  rw [hl,hx,hb] at h
  exact ⟨by rw [packOut,h,if_neg he],h⟩
theorem pack_fine {l:List (Int × ByteArray)} (hok:okTo 1 l l.length):packOut l = txt (encs l)/\packErr 1 l = 0:=by
  have h:=packErr_ok l 1 hok
  exact ⟨by rw [packOut,h,if_pos rfl],h⟩
def bcells (l:List UInt8):List Value:=l.map fun b=>.int .u8 (b.toNat:Int)
theorem bcells_append (a b:List UInt8):bcells (a ++ b) = bcells a ++ bcells b:=by simp [bcells]
theorem byteCells_eq (s:ByteArray):byteCells s = bcells s.data.toList:=rfl
theorem encs_take_succ {l:List (Int × ByteArray)} {k:Nat} {x:Int × ByteArray} (hk:k < l.length) (hx:l.getD k (0,.empty) = x):encs (l.take (k + 1)) = encs (l.take k) ++ encOne x:=by
  have:l.take (k + 1) = l.take k ++ [x]:=by
    rw [List.take_succ_eq_append_getElem hk];simp [List.getD,hk] at hx;rw [hx]
  rw [this];simp [encs]
theorem encs_take_le (l:List (Int × ByteArray)) (k:Nat):(encs (l.take k)).length<=(encs l).length:=by
  have e:encs (l.take k ++ l.drop k) = encs (l.take k) ++ encs (l.drop k):=by unfold encs;rw [List.flatMap_append]
  rw [List.take_append_drop] at e
  rw [e];simp
theorem encOne_length (x:Int × ByteArray):(encOne x).length = 3 + x.2.size:=by
  simp only [encOne,List.length_append,List.length_cons,List.length_nil,Array.length_toList];rfl
theorem encOne_cells (t:Int) (s:ByteArray) (h1:1<=t) (h2:t<=255) (h3:s.size<=65535) :
    bcells (encOne (t,s)) = [.int .u8 t,.int .u8 ((s.size:Int) / 256),.int .u8 ((s.size:Int) % 256)] ++ byteCells s:=by
  have e1:(UInt8.ofNat t.toNat).toNat = t.toNat:=by rw [UInt8.toNat_ofNat'];omega
  have e2:(UInt8.ofNat (s.size / 256)).toNat = s.size / 256:=by rw [UInt8.toNat_ofNat'];omega
  have e3:(UInt8.ofNat (s.size % 256)).toNat = s.size % 256:=by rw [UInt8.toNat_ofNat'];omega
  rw [encOne,bcells_append,← byteCells_eq]
  simp only [bcells,List.map_cons,List.map_nil,e1,e2,e3]
  congr 2
  congr 1
  omega
end Pl
namespace Pl
def tagOf (l:List UInt8):Int:=(l.getD 0 0).toNat
def lenOf (l:List UInt8):Nat:=256 * (l.getD 1 0).toNat + (l.getD 2 0).toNat
def stepErr (last:Int) (l:List UInt8):Int:=if l.length < 3 then 10 else if tagOf l = 0 then 4 else if tagOf l < last then 11 else if l.length - 3 < lenOf l then 10 else 0
def fieldOf (l:List UInt8):Int × ByteArray:=(tagOf l,txt ((l.drop 3).take (lenOf l)))
def join (d:List (Int × ByteArray)) (r:List (Int × ByteArray) × Int):List (Int × ByteArray) × Int:=if r.2 = 0 then (d ++ r.1,0) else ([],r.2)
def parse:Nat->Int->List UInt8->List (Int × ByteArray) × Int
  | 0,_,_=>([],0)
  | f + 1,last,l=>if l = [] then ([],0) else if stepErr last l = 0 then join [fieldOf l] (parse f (tagOf l) (l.drop (3 + lenOf l))) else ([],stepErr last l)
def unpOut (l:List UInt8):List (Int × ByteArray):=(parse l.length 1 l).1
def unpErr (l:List UInt8):Int:=(parse l.length 1 l).2
theorem join_join (d e:List (Int × ByteArray)) (r:List (Int × ByteArray) × Int):join d (join e r) = join (d ++ e) r:=by
  unfold join
  by_cases h:r.2 = 0
  · simp [h]
  · simp [h]
theorem parse_nil (f:Nat) (last:Int):parse f last [] = ([],0):=by
  cases f <;> simp [parse]
/-- On the way: the fields that are done, the last tag, the bytes that are left. -/
def Mid (l0:List UInt8) (done:List (Int × ByteArray)) (last:Int) (rest:List UInt8):Prop :=
  done.length * 3 + rest.length<=l0.length/\∃ f,rest.length<=f/\parse l0.length 1 l0 = join done (parse f last rest)
theorem join_nil (r:List (Int × ByteArray) × Int) (h:r.2≠0->r.1 = []):join [] r = r:=by
  unfold join
  by_cases h0:r.2 = 0
  · rw [if_pos h0,List.nil_append,← h0]
  · rw [if_neg h0,← h h0]
theorem parse_err_nil : ∀ (f : Nat) (last : Int) (l : List UInt8), (parse f last l).2 ≠ 0 → (parse f last l).1 = []
  | 0,_,_,h=>by simp [parse] at h
  | f + 1, last, l, h => by
    unfold parse at h ⊢
    by_cases h1:l = []
    · simp [h1] at h
    · simp only [if_neg h1] at h ⊢
      by_cases h2:stepErr last l = 0
      · simp only [if_pos h2] at h ⊢
        unfold join at h ⊢
        by_cases h3:(parse f (tagOf l) (l.drop (3 + lenOf l))).2 = 0
        · simp [h3] at h
        · simp [h3]
      · simp [h2]
theorem Mid.start (l:List UInt8):Mid l [] 1 l :=
  ⟨by simp,l.length,Nat.le_refl _,(join_nil _ (parse_err_nil _ _ _)).symm⟩
theorem Mid.finish {l0:List UInt8} {done:List (Int × ByteArray)} {last:Int} (h:Mid l0 done last []):unpOut l0 = done/\unpErr l0 = 0:=by
  obtain ⟨_,f,_,e⟩:=h
  rw [parse_nil] at e
  unfold unpOut unpErr
  rw [e]
  simp [join]
theorem Mid.fail {l0:List UInt8} {done:List (Int × ByteArray)} {last:Int} {rest:List UInt8} {e:Int} (h:Mid l0 done last rest) (hr:rest≠[]) (hs:stepErr last rest = e) (he:e≠0):unpOut l0 = []/\unpErr l0 = e:=by
  obtain ⟨_,f,hf,eq⟩:=h
  match f,hf with
  | 0,hf=>exact absurd (List.eq_nil_of_length_eq_zero (by omega)) hr
  | f + 1, _ =>
    have hp:parse (f + 1) last rest = ([],e):=by
      unfold parse
      rw [if_neg hr,hs,if_neg he]
    rw [hp] at eq
    unfold unpOut unpErr
    rw [eq]
    simp [join,he]
theorem Mid.step {l0:List UInt8} {done:List (Int × ByteArray)} {last:Int} {rest:List UInt8} (h:Mid l0 done last rest) (hr:rest≠[]) (hs:stepErr last rest = 0) :
    Mid l0 (done ++ [fieldOf rest]) (tagOf rest) (rest.drop (3 + lenOf rest)):=by
  obtain ⟨hl,f,hf,eq⟩:=h
  match f,hf with
  | 0,hf=>exact absurd (List.eq_nil_of_length_eq_zero (by omega)) hr
  | f + 1, hf =>
    have h3:¬ rest.length < 3:=by
      intro h
      simp [stepErr,h] at hs
    refine ⟨by simp only [List.length_append,List.length_cons,List.length_nil,List.length_drop];omega,f,by simp only [List.length_drop];omega,?_⟩
    rw [eq,← join_join]
    congr 1
    conv=>lhs;unfold parse
    rw [if_neg hr,if_pos hs]
theorem getD_at (s:ByteArray) (i:Nat) (h:i < s.size):s.data.toList.getD i 0 = s[i]:=by
  have h2:i < s.data.toList.length:=by simpa using h
  simp only [List.getD,List.getElem?_eq_getElem h2,Option.getD_some]
  simp
  rfl
theorem getD_drop (l:List UInt8) (a i:Nat):(l.drop a).getD i 0 = l.getD (a + i) 0:=by
  simp [List.getD]
theorem extract_txt (s:ByteArray) (a b:Nat):s.extract a b = txt ((s.data.toList.drop a).take (b - a)):=by
  apply ByteArray.ext
  apply Array.ext'
  rw [ByteArray.data_extract]
  simp [txt,List.extract]
end Pl
namespace Pl
theorem badAt_zero {last:Int} {x:Int × ByteArray} (h:badAt last x = 0):1<=x.1/\x.1<=255/\x.2.size<=65535/\last<=x.1:=by
  unfold badAt at h
  split at h
  · cases h
  · split at h
    · cases h
    · split at h
      · cases h
      · omega
theorem parse_encs:∀ (l:List (Int × ByteArray)) (last:Int) (f:Nat),packErr last l = 0->(encs l).length<=f->parse f last (encs l) = (l,0)
  | [],last,f,_,_=>parse_nil f last
  | x :: l, last, f, hp, hf => by
    have hb:badAt last x = 0:=by
      unfold packErr at hp
      split at hp
      · assumption
      · exact hp
    have hp':packErr x.1 l = 0:=by
      unfold packErr at hp
      rwa [if_pos hb] at hp
    obtain ⟨h1,h2,h3,h4⟩:=badAt_zero hb
    obtain ⟨t,s⟩:=x
    simp only at h1 h2 h3 h4 hp'
    have e:encs ((t,s) :: l) = UInt8.ofNat t.toNat :: UInt8.ofNat (s.size / 256) :: UInt8.ofNat (s.size % 256) :: (s.data.toList ++ encs l):=by simp [encs,encOne]
    have hsl:s.data.toList.length = s.size:=by simp
    have hlen:(encs ((t,s) :: l)).length = 3 + s.size + (encs l).length:=by
      rw [e];simp only [List.length_cons,List.length_append,hsl];omega
    rw [hlen] at hf
    have et:tagOf (encs ((t,s) :: l)) = t:=by
      rw [e,tagOf,List.getD_cons_zero,UInt8.toNat_ofNat'];omega
    have el:lenOf (encs ((t,s) :: l)) = s.size:=by
      rw [e,lenOf,List.getD_cons_succ,List.getD_cons_zero,List.getD_cons_succ,List.getD_cons_succ,List.getD_cons_zero,UInt8.toNat_ofNat',UInt8.toNat_ofNat'];omega
    have ef:fieldOf (encs ((t,s) :: l)) = (t,s):=by
      unfold fieldOf
      rw [et,el,e]
      simp only [List.drop_succ_cons,List.drop_zero]
      rw [List.take_append_of_le_length (by omega),List.take_of_length_le (by omega),txt_toList]
    have ed:(encs ((t,s) :: l)).drop (3 + lenOf (encs ((t,s) :: l))) = encs l:=by
      rw [el,← List.drop_drop,e]
      simp only [List.drop_succ_cons,List.drop_zero]
      rw [← hsl,List.drop_left]
    have es:stepErr last (encs ((t,s) :: l)) = 0:=by
      unfold stepErr
      rw [et,el,hlen,if_neg (by omega),if_neg (by omega),if_neg (by omega),if_neg (by omega)]
    match f,hf with
    | 0,hf=>omega
    | f + 1, hf =>
      unfold parse
      rw [if_neg (by rw [e];simp),if_pos es,ed,ef,et,parse_encs l t f hp' (by omega)]
      simp [join]
theorem unp_encs (l:List (Int × ByteArray)) (h:packErr 1 l = 0):unpOut (encs l) = l/\unpErr (encs l) = 0:=by
  unfold unpOut unpErr
  rw [parse_encs l 1 _ h (Nat.le_refl _)]
  exact ⟨rfl,rfl⟩
end Pl
namespace Pl
theorem numOf_cons_lt (b:UInt8) (l:List UInt8):numOf (b :: l) < (b.toNat + 1) * 256 ^ l.length:=by
  have:=numOf_lt_acc l b.toNat
  simpa [numOf] using this
theorem numOf_take_lt (l:List UInt8) (k:Nat) (h8:l.length<=8) (hh:l.length = 8->(l.headD 0).toNat < 128) (hk:k < l.length):numOf (l.take k) < 36028797018963968:=by
  by_cases h7:k<=6
  · have h1 := numOf_lt (l.take k)
    have h2:(l.take k).length = k:=by simp;omega
    rw [h2] at h1
    have h3:256 ^ k<=256 ^ 6:=Nat.pow_le_pow_right (by decide) h7
    have h4:(256:Nat) ^ 6 < 36028797018963968:=by decide
    omega
  · have hk7 : k = 7 := by omega
    subst hk7
    match l,h8,hh,hk with
    | b :: r, h8, hh, hk =>
      have hb:=hh (by simp at h8 hk ⊢;omega)
      have h1:=numOf_cons_lt b (r.take 6)
      have h2:(r.take 6).length = 6:=by simp at hk ⊢;omega
      rw [h2] at h1
      simp only [List.headD_cons] at hb
      have h3:(256:Nat) ^ 6 = 281474976710656:=by decide
      rw [h3] at h1
      show numOf (b :: r.take 6) < _
      omega
theorem take_snoc (s:ByteArray) (k:Nat) (h:k < s.size):s.data.toList.take (k + 1) = s.data.toList.take k ++ [s[k]]:=by
  rw [List.take_succ_eq_append_getElem (by simpa using h)];rfl
theorem numOf_take_succ (s:ByteArray) (k:Nat) (h:k < s.size):numOf (s.data.toList.take (k + 1)) = 256 * numOf (s.data.toList.take k) + s[k].toNat:=by
  rw [take_snoc s k h,numOf_snoc]
theorem wrap_i64_small (n:Nat) (h:n < 9223372036854775808):IntKind.i64.wrap (n:Int) = (n:Int):=by
  have e:(n:Int) % 2 ^ 64 = n:=Int.emod_eq_of_lt (by omega) (by omega)
  simp only [IntKind.wrap,IntKind.bits,IntKind.signed,e]
  rw [if_neg]
  simp
  omega
theorem or_byte (x:Nat) (b:UInt8) (hx:x < 36028797018963968):bits .or .i64 ((x:Int) * 256) (b.toNat:Int) = 256 * (x:Int) + (b.toNat:Int):=by
  have hb:=b.toNat_lt
  have e:(x:Int) * 256 = ((256 * x:Nat):Int):=by omega
  rw [e]
  show IntKind.i64.wrap ((BitVec.ofInt 64 ((256 * x:Nat):Int) ||| BitVec.ofInt 64 ((b.toNat:Nat):Int)).toNat:Int) = _
  rw [BitVec.toNat_or,ofInt_u64 (256 * x) (by omega),ofInt_u64 b.toNat (by omega),nat_join 8 (256 * x) b.toNat (by omega) (by omega),wrap_i64_small _ (by omega)]
  omega
end Pl
namespace Ak
structure Cl where
  k:Int
  no:Int
  gen:Int
  no2:Int
  gen2:Int
  nm:ByteArray
  nm2:ByteArray
  pl:Int
  n:Int
  data:ByteArray
def zero:Cl:=⟨0,0,0,0,0,⟨#[]⟩,⟨#[]⟩,0,0,⟨#[]⟩⟩
abbrev hokP (no gen:Int):Prop:=(0<=no/\no<=255)/\(0<=gen/\gen<=1099511627776)
def hok (no gen:Int):Bool:=decide (hokP no gen)
abbrev rightP (c:Cl):Prop:=(1<=c.k/\c.k<=14)/\hokP c.no c.gen/\hokP c.no2 c.gen2/\c.nm.size<=255/\c.nm2.size<=255/\(0<=c.pl/\c.pl<=4294967295)/\(0<=c.n/\c.n<=65535)/\c.data.size<=1024
def right (c:Cl):Bool:=decide (rightP c)
theorem right_iff {c:Cl}:right c = true ↔ rightP c:=by simp [right]
theorem wrong_iff {c:Cl}:right c = false ↔ ¬ rightP c:=by simp [right]
def opt (b:Bool) (x:Int × ByteArray):List (Int × ByteArray):=if b then [x] else []
def hnz (no gen:Int):Bool:=!(no == 0 && gen == 0)
def snz (s:ByteArray):Bool:=!s.toList.isEmpty
def hbytes (no gen:Int):ByteArray:=Pl.numOut no 1 ++ Pl.numOut gen 6
def f1 (c:Cl):List (Int × ByteArray):=[(1,Pl.numOut c.k 1)]
def f2 (c:Cl):=f1 c ++ opt (hnz c.no c.gen) (2,hbytes c.no c.gen)
def f3 (c:Cl):=f2 c ++ opt (hnz c.no2 c.gen2) (3,hbytes c.no2 c.gen2)
def f4 (c:Cl):=f3 c ++ opt (snz c.nm) (4,c.nm)
def f5 (c:Cl):=f4 c ++ opt (snz c.nm2) (5,c.nm2)
def f6 (c:Cl):=f5 c ++ opt (c.pl != 0) (6,Pl.numOut c.pl 4)
def f7 (c:Cl):=f6 c ++ opt (c.n != 0) (7,Pl.numOut c.n 2)
def fields (c:Cl):=f7 c ++ opt (snz c.data) (8,c.data)
/-- What Pack answers. -/
def packOut (c:Cl):ByteArray:=if right c then Pl.txt (Pl.encs (fields c)) else ⟨#[]⟩
def packErr (c:Cl):Int:=if right c then 0 else 413
/-- A number of a right call, as bytes. -/
theorem num_ok {n:Int} {z:Nat} (h0:0<=n) (hz:1<=z) (h8:z<=8) (h:n.toNat < 256 ^ z):Pl.numOut n z = Pl.txt (Pl.digits z n.toNat):=by
  have hb:Pl.numBad n z = false:=by
    simp only [Pl.numBad,Bool.or_eq_false_iff,decide_eq_false_iff_not,Int.toNat_natCast]
    refine ⟨by omega,?_⟩
    rw [Nat.div_eq_of_lt h]
    simp
  simp [Pl.numOut,hb]
theorem num_size {n:Int} {z:Nat} (h0:0<=n) (hz:1<=z) (h8:z<=8) (h:n.toNat < 256 ^ z):(Pl.numOut n z).size = z:=by
  rw [num_ok h0 hz h8 h,Pl.txt_size,Pl.digits_length]
theorem numOf_acc (l:List UInt8):∀ a:Nat,l.foldl (fun n b=>256 * n + b.toNat) a = a * 256 ^ l.length + Pl.numOf l:=by
  induction l with
  | nil=>intro a;simp [Pl.numOf]
  | cons b l ih =>
    intro a
    have e:Pl.numOf (b :: l) = (256 * 0 + b.toNat) * 256 ^ l.length + Pl.numOf l:=ih (256 * 0 + b.toNat)
    rw [List.foldl_cons,ih,e,List.length_cons,Nat.pow_succ,Nat.mul_zero,Nat.zero_add,Nat.add_mul,Nat.mul_comm 256 a,Nat.mul_assoc,Nat.mul_comm 256,Nat.add_assoc]
theorem numOf_cons (b:UInt8) (l:List UInt8):Pl.numOf (b :: l) = b.toNat * 256 ^ l.length + Pl.numOf l:=by
  have e:Pl.numOf (b :: l) = l.foldl (fun n b=>256 * n + b.toNat) (256 * 0 + b.toNat):=rfl
  rw [e,numOf_acc,Nat.mul_zero,Nat.zero_add]
theorem numOf_digits (z:Nat):∀ m:Nat,Pl.numOf (Pl.digits z m) = m % 256 ^ z:=by
  induction z with
  | zero=>intro m;simp [Pl.digits,Pl.numOf,Nat.mod_one]
  | succ z ih =>
    intro m
    have e:(UInt8.ofNat (m / 256 ^ z % 256)).toNat = m / 256 ^ z % 256:=by rw [UInt8.toNat_ofNat'];omega
    rw [Pl.digits_succ,numOf_cons,ih,Pl.digits_length,e,Nat.pow_succ,Nat.mod_mul,Nat.mul_comm (256 ^ z) (m / 256 ^ z % 256),Nat.add_comm]
/-- A number read again. -/
theorem val_num {n:Int} {z:Nat} (h0:0<=n) (hz:1<=z) (h7:z<=7) (h:n.toNat < 256 ^ z):Pl.numVal (Pl.numOut n z) = n:=by
  have hs:=num_size h0 hz (by omega) h
  have h1:Pl.sNum (Pl.numOut n z) = false:=by simp only [Pl.sNum,hs,decide_eq_false_iff_not];omega
  have h2:Pl.fNum (Pl.numOut n z) = false:=by
    have:decide (z = 8) = false:=decide_eq_false (by omega)
    simp [Pl.fNum,hs,this]
  unfold Pl.numVal
  rw [h1,h2,num_ok h0 hz (by omega) h,Pl.txt_data,numOf_digits,Nat.mod_eq_of_lt h]
  simp
  omega
/-- The handle that bytes are. -/
def hno (s:ByteArray):Int:=if s.size = 7 then Pl.numVal (s.extract 0 1) else 0
def hgen (s:ByteArray):Int:=if s.size = 7 then Pl.numVal (s.extract 1 7) else 0
theorem hok_of {no gen:Int} (h:hokP no gen):0<=no/\no.toNat < 256 ^ 1/\0<=gen/\gen.toNat < 256 ^ 6:=by
  obtain ⟨⟨a,b⟩,c,d⟩:=h
  exact ⟨a,by omega,c,by omega⟩
theorem hbytes_size {no gen:Int} (h:hokP no gen):(hbytes no gen).size = 7:=by
  obtain ⟨a,b,c,d⟩:=hok_of h
  unfold hbytes
  have h1:=num_size (z:=1) a (by omega) (by omega) b
  have h2:=num_size (z:=6) c (by omega) (by omega) d
  rw [ByteArray.size_append]
  have e1:Pl.numOut no 1 = Pl.numOut no ((1:Nat):Int):=rfl
  have e2:Pl.numOut gen 6 = Pl.numOut gen ((6:Nat):Int):=rfl
  rw [e1,e2,h1,h2]
theorem extract_left (a b:ByteArray) (n:Nat) (h:a.size = n):(a ++ b).extract 0 n = a:=by
  subst h
  rw [Pl.extract_txt]
  have:(a ++ b).data.toList = a.data.toList ++ b.data.toList:=by simp [ByteArray.data_append]
  rw [this,List.drop_zero,List.take_append_of_le_length (by simp),List.take_of_length_le (by simp),Pl.txt_toList]
theorem extract_right (a b:ByteArray) (n m:Nat) (h:a.size = n) (hm:a.size + b.size<=m):(a ++ b).extract n m = b:=by
  subst h
  rw [Pl.extract_txt]
  have:(a ++ b).data.toList = a.data.toList ++ b.data.toList:=by simp [ByteArray.data_append]
  have hl:a.size = a.data.toList.length:=by simp
  rw [this,hl,List.drop_left,List.take_of_length_le (by simp;have:b.data.size = b.size:=rfl;have h2:a.data.size = a.size:=rfl;omega),Pl.txt_toList]
theorem hback {no gen:Int} (h:hokP no gen):hno (hbytes no gen) = no/\hgen (hbytes no gen) = gen:=by
  have hs:=hbytes_size h
  obtain ⟨a,b,c,d⟩:=hok_of h
  have h1:(Pl.numOut no 1).size = 1:=num_size (z:=1) a (by omega) (by omega) b
  have h2:(Pl.numOut gen 6).size = 6:=num_size (z:=6) c (by omega) (by omega) d
  unfold hno hgen
  rw [if_pos hs,if_pos hs]
  unfold hbytes
  rw [extract_left _ _ 1 h1,extract_right _ _ 1 7 h1 (by omega)]
  exact ⟨val_num (z:=1) a (by omega) (by omega) b,val_num (z:=6) c (by omega) (by omega) d⟩
/-- A call with what a field says. -/
def withF (c:Cl) (x:Int × ByteArray):Cl :=
  if x.1 = 1 then { c with k:=Pl.numVal x.2 }
  else if x.1 = 2 then { c with no:=hno x.2,gen:=hgen x.2 }
  else if x.1 = 3 then { c with no2:=hno x.2,gen2:=hgen x.2 }
  else if x.1 = 4 then { c with nm:=x.2 }
  else if x.1 = 5 then { c with nm2:=x.2 }
  else if x.1 = 6 then { c with pl:=Pl.numVal x.2 }
  else if x.1 = 7 then { c with n:=Pl.numVal x.2 }
  else if x.1 = 8 then { c with data:=x.2 }
  else c
def callOf (l:List (Int × ByteArray)):Cl:=l.foldl withF zero
/-- The value of a tag: the last one. -/
def lastOf (l:List (Int × ByteArray)) (t:Int):ByteArray:=l.foldl (fun s x=>if x.1 = t then x.2 else s) ⟨#[]⟩
theorem lastOf_snoc (l:List (Int × ByteArray)) (x:Int × ByteArray) (t:Int):lastOf (l ++ [x]) t = if x.1 = t then x.2 else lastOf l t:=by simp [lastOf]
theorem callOf_snoc (l:List (Int × ByteArray)) (x:Int × ByteArray):callOf (l ++ [x]) = withF (callOf l) x:=by simp [callOf]
theorem rev_ind {α:Type} {p:List α->Prop} (h0:p []) (h1:∀ l x,p l->p (l ++ [x])) (l:List α):p l:=by
  have:∀ m:List α,p m.reverse:=by
    intro m
    induction m with
    | nil=>exact h0
    | cons x m ih=>rw [List.reverse_cons];exact h1 _ _ ih
  have:=this l.reverse
  rwa [List.reverse_reverse] at this
/-- What Unpack answers. -/
def isCall (L:List UInt8):Bool:=decide (Pl.unpErr L = 0) && right (callOf (Pl.unpOut L)) && decide (Pl.encs (fields (callOf (Pl.unpOut L))) = L)
def unpC (L:List UInt8):Cl:=if isCall L then callOf (Pl.unpOut L) else zero
def unpE (L:List UInt8):Int:=if isCall L then 0 else 413
end Ak
end Go.Proofs.YtggoccfddnpelaaGreat.Ks
