/- NOrp, as one. -/
import Derived.Test.YtneojimodomohaaGreatQ35
namespace Go.Proofs.YtneojimodomohaaGreat
open Go.ChangeShapes Go.WideShapes Go.ChangeAt Go.RowKit Go.Deep It
set_option maxRecDepth 100000
/-- A call, with what it tells and leaves given by name. -/
theorem do_step {S:Nat->Prop} {vi vo:Value} {sp:Option Addr} {sn sc:Nat} {dn cl:Int} {c:Cal} {L:List Rw} {O:List Os.Opn} {w:World} (hv:TabAt S w vi L) (ho:At Os.EO S w vo O) (hok:Sp.okN L) (hc:c.nm.size<=maxLen/\c.nm2.size<=maxLen/\c.data.size<=maxLen) {R:Nf.Rpl} {T:List Ino} {Q:List Os.Opn} {D:Int} (hR:Nf.doR (pl L) O dn cl c = R) (hT:Nf.doT (pl L) O dn cl c = T) (hQ:Nf.doO (pl L) O dn cl c = Q) (hD:Nf.doD (pl L) O dn cl = D) :
    Calls Tryz.prog 11 #[VSt vi vo (.slice sp sn sc) dn,.int .i64 cl,Ks.VC c] w fun e w'=>∃ ep en ec up un uc op on oc L',e = .returned (.tuple #[VSt (.slice up un uc) (.slice op on oc) (.slice sp sn sc) D,VR R (.slice ep en ec)])/\TabAt (fun b=>S b∨w.heap.size<=b) w' (.slice up un uc) L'/\pl L' = T/\At Os.EO (fun b=>S b∨w.heap.size<=b) w' (.slice op on oc) Q/\At EE (fun b=>S b∨w.heap.size<=b) w' (.slice ep en ec) R.ents/\Below w.heap.size w w':=by
  refine (ndo_any vi vo sp sn sc dn cl c L O w hv ho hok hc.1 hc.2.1 hc.2.2).mono ?_
  rintro e w' ⟨u,uo,ve,L',h1,h2,h3,h4,h5,h6⟩
  rw [hR,hD] at h1
  rw [hT] at h3
  rw [hQ] at h4
  rw [hR] at h5
  obtain ⟨up,uc,hu,-,-⟩:=h2.open
  obtain ⟨op,oc,hu2,-,-⟩:=h4.open
  obtain ⟨ep,ec,hu3,-,-⟩:=h5.open
  subst hu hu2 hu3
  exact ⟨_,_,_,_,_,_,_,_,_,L',h1,h2,h3,h4,h5,h6⟩
set_option maxHeartbeats 2000000 in
theorem nnew_any (w:World):Calls Tryz.prog 17 #[] w fun e w'=>∃ ap n cp L,e = .returned (VSt (.slice ap n cp) (.slice none 0 0) (.slice none 0 0) 0)/\TabAt (fun b=>w.heap.size<=b) w' (.slice ap n cp) L/\pl L = It.new/\Below w.heap.size w w':=by
  obtain ⟨W,hW⟩:∃ W,W = w.alloc BS0:=⟨_,rfl⟩
  have HB0:Hid (Below w.heap.size w W):=by show Below w.heap.size w W;rw [hW];exact (Below.refl _ w).alloc (Nat.le_refl _) _
  have HA0:Hid (W.heap[w.heap.size]? = some BS0):=by show W.heap[w.heap.size]? = _;rw [hW];exact heap_alloc_new _ _
  have hwW:w.heap.size < W.heap.size:=(Array.getElem?_eq_some_iff.1 HA0.out).1
  go_enter Tryz.func17,Tryz.ntmps17
  go_wp2_with fail
  rw [← hW]
  clear hW
  refine (new_any W).mono ?_
  rintro e w1 ⟨u,L,rfl,ht,hp,hb⟩
  obtain ⟨ap,cp,hu,-,-⟩:=ht.open
  obtain ⟨n,hn⟩:∃ n,L.length = n:=⟨_,rfl⟩
  rw [hn] at hu
  subst hu
  have HT1:Hid (TabAt (fun b=>w.heap.size < b) w1 (.slice ap n cp) L):=ht.imp (fun b hb _=>by omega)
  have HP1:Hid (pl L = It.new):=hp
  have HB1:Hid (Below w.heap.size w w1):=HB0.out.trans (hb.mono HB0.out.size)
  have HA1:Hid (w1.heap[w.heap.size]? = some BS0):=(hb.block _ hwW).trans HA0.out
  obtain ⟨f0,f1,f2,f3⟩:=st_of HA1.out
  have ff:=fr_at HA1.out
  clear ht hp hb hn
  go_wp2
  (try simp only [Exit.inBlock,Exit.then])
  refine bodyPost_ret (v:=VSt (.slice ap n cp) (.slice none 0 0) (.slice none 0 0) 0) ?_ rfl ⟨ap,n,cp,L,rfl,?_,HP1.out,?_⟩
  · rw [results_cell1 rfl]
    go_simp
  · exact (setCells_tab (A:=w.heap.size) (S:=fun b=>w.heap.size < b) (by omega) (cS (.slice ap n cp) (.slice none 0 0) (.slice none 0 0) 0) 0 w1 HT1.out).imp (fun b hb _=>by omega)
  · exact setCells_below (Nat.le_refl _) (cS (.slice ap n cp) (.slice none 0 0) (.slice none 0 0) 0) 0 w1 HB1.out
end Go.Proofs.YtneojimodomohaaGreat
