/- Same, OSame, ZSm, ZNw, ZNs, ZEm, ZLg, ZLp, as one. -/
import Derived.Test.YtggoccfddnpelaaGreatDoorR38
namespace Go.Proofs.YtggoccfddnpelaaGreatDoor
open Go.ChangeShapes Go.WideShapes Go.ChangeAt Go.RowKit Go.Deep It
set_option maxRecDepth 100000
set_option maxHeartbeats 1000000 in
theorem entries_same {S T:Nat->Prop} (u v:Value) (l:List (ByteArray × Int × Int × Int)) (w:World) (hu:At EE S w u l) (hv:At EE T w v l) :
    Calls Tryz.prog 51 #[u,v] w fun e w'=>e = .returned (.bool true)/\Below w.heap.size w w':=by
  obtain ⟨ao,cap,rfl,hm,hx⟩:=hu.open
  obtain ⟨bo,cap',rfl,_,hy⟩:=hv.open
  clear hu hv
  unfold maxLen at hm
  obtain ⟨n,hn⟩:∃ n,l.length = n:=⟨_,rfl⟩
  rw [hn] at hm ⊢
  have HN:Hid (l.length = n):=hn
  have HX:Hid (∀ i x,l[i]? = some x->∃ b off,ao = some ⟨b,off,none⟩/\S b/\b < w.heap.size/\∀ k u,(EE.cells x)[k]? = some u->w.cell? ⟨b,off + (i * 4 + k),none⟩ = some u):=hx
  have HY:Hid (∀ i x,l[i]? = some x->∃ b off,bo = some ⟨b,off,none⟩/\T b/\b < w.heap.size/\∀ k u,(EE.cells x)[k]? = some u->w.cell? ⟨b,off + (i * 4 + k),none⟩ = some u):=hy
  clear hn hx hy
  go_enter Tryz.func51,Tryz.ntmps51
  go_wp2
  go_loopw [8] (fun i wr=>∃ k:Nat,k<=n/\i = .int .i64 k/\Below w.heap.size w wr) (fun i _=>n - (intOf i).toNat)
  case atStart=>exact ⟨0,Nat.zero_le _,rfl,Below.refl _ _⟩
  case round =>
    obtain ⟨k,hk,rfl,hbl⟩:=hrel
    by_cases hlt:k < n
    · obtain ⟨y, hyk⟩ : ∃ y, l[k]? = some y := ⟨_, List.getElem?_eq_getElem (by rw [HN.out]; exact hlt)⟩
      obtain ⟨b,off,rfl,_,hB,hc⟩:=HX.out k y hyk
      obtain ⟨b',off',rfl,_,hB',hc'⟩:=HY.out k y hyk
      have c0:=hc 0 _ rfl
      have c1:=hc 1 _ rfl
      have c2:=hc 2 _ rfl
      have c3:=hc 3 _ rfl
      have d0:=hc' 0 _ rfl
      have d1:=hc' 1 _ rfl
      have d2:=hc' 2 _ rfl
      have d3:=hc' 3 _ rfl
      rw [← hbl.cell (p:=⟨b,off + (k * 4 + 0),none⟩) hB,Nat.add_zero] at c0
      rw [← hbl.cell (p:=⟨b,off + (k * 4 + 1),none⟩) hB,← Nat.add_assoc] at c1
      rw [← hbl.cell (p:=⟨b,off + (k * 4 + 2),none⟩) hB,← Nat.add_assoc] at c2
      rw [← hbl.cell (p:=⟨b,off + (k * 4 + 3),none⟩) hB,← Nat.add_assoc] at c3
      rw [← hbl.cell (p:=⟨b',off' + (k * 4 + 0),none⟩) hB',Nat.add_zero] at d0
      rw [← hbl.cell (p:=⟨b',off' + (k * 4 + 1),none⟩) hB',← Nat.add_assoc] at d1
      rw [← hbl.cell (p:=⟨b',off' + (k * 4 + 2),none⟩) hB',← Nat.add_assoc] at d2
      rw [← hbl.cell (p:=⟨b',off' + (k * 4 + 3),none⟩) hB',← Nat.add_assoc] at d3
      obtain ⟨y0,y1,y2,y3⟩:=y
      simp only at c0 c1 c2 c3 d0 d1 d2 d3
      have hlt':(k:Int) < (n:Int):=by omega
      have hge:decide ((n:Int)<=(k:Int)) = false:=by simp;omega
      have hge2:decide (n<=k) = false:=by simp;omega
      clear hyk hc hc'
      go_wp2
      go_quiet (fail)
      go_wp2
      go_roundw
      case rel=>exact ⟨k + 1,by omega,by go_num,Go.below_drewN hbl _⟩
      case measure=>simp [intOf];omega
    · obtain rfl : k = n := by omega
      go_wp2
      go_ret
      exact ⟨by simp,hbl⟩
theorem eight_grw {w:World} {b o:Nat} {x:Rw} (h:eight w b o x) (p:Grw w):eight p.out b o x:=h.below p.below (World.block_lt_of_cell? _ _ h.1)
set_option maxHeartbeats 4000000 in
set_option maxRecDepth 100000 in
theorem inodes_same {S T : Nat → Prop} (u v : Value) (L M : List Rw) (w : World) (hu : TabAt S w u L) (hv : TabAt T w v M) (hp : pl L = pl M) :
    Calls Tryz.prog 27 #[u,v] w fun e w'=>e = .returned (.bool true)/\Below w.heap.size w w':=by
  obtain ⟨ao,cap,rfl,hm,hx⟩:=hu.open
  obtain ⟨bo,cap',rfl,_,hy⟩:=hv.open
  clear hu hv
  unfold maxLen at hm
  have hlen:M.length = L.length:=by have:=congrArg List.length hp;simpa [pl] using this.symm
  rw [hlen]
  obtain ⟨n,hn⟩:∃ n,L.length = n:=⟨_,rfl⟩
  rw [hn] at hm hlen ⊢
  have HN:Hid (L.length = n/\M.length = n):=⟨hn,hlen⟩
  have HP:Hid (pl L = pl M):=hp
  have HX:Hid (∀ i x,L[i]? = some x->(∃ b off,ao = some ⟨b,off,none⟩/\b < w.heap.size/\eight w b (off + i * 8) x)/\Good S w x):=hx
  have HY:Hid (∀ i x,M[i]? = some x->(∃ b off,bo = some ⟨b,off,none⟩/\b < w.heap.size/\eight w b (off + i * 8) x)/\Good T w x):=hy
  clear hn hlen hx hy hp
  go_enter Tryz.func27,Tryz.ntmps27
  go_wp2
  go_loopw [8] (fun i wr=>∃ k:Nat,k<=n/\i = .int .i64 k/\Below w.heap.size w wr) (fun i _=>n - (intOf i).toNat)
  case atStart=>exact ⟨0,Nat.zero_le _,rfl,Below.refl _ _⟩
  case round =>
    obtain ⟨k,hk,rfl,hbl⟩:=hrel
    by_cases hlt:k < n
    · obtain ⟨x, hxk⟩ : ∃ y, L[k]? = some y := ⟨_, List.getElem?_eq_getElem (by rw [HN.out.1]; exact hlt)⟩
      obtain ⟨y,hyk⟩:∃ y,M[k]? = some y:=⟨_,List.getElem?_eq_getElem (by rw [HN.out.2];exact hlt)⟩
      have hxy:y.i = x.i:=by
        have:=congrArg (fun l=>l[k]?) HP.out
        simp only [pl,List.getElem?_map,hxk,hyk,Option.map_some,Option.some.injEq] at this
        exact this.symm
      obtain ⟨⟨b,off,rfl,hB,hc⟩,hgx⟩:=HX.out k x hxk
      obtain ⟨⟨b',off',rfl,hB',hc'⟩,hgy⟩:=HY.out k y hyk
      have HR:Hid (∀ W,wr.grownBy W none->Calls Tryz.prog 50 #[.slice x.rp x.rn x.rc,.slice y.rp y.rn y.rc] W fun e w'=>e = .returned (.bool true)/\Below W.heap.size W w'):=fun W hW=>by
        have h1:=((hgx.up hbl).up (below_none hW (Nat.le_refl _))).1.fields
        have h2:=((hgy.up hbl).up (below_none hW (Nat.le_refl _))).1.fields
        rw [hxy] at h2
        exact runs_same _ _ _ W h1 h2
      have HE:Hid (∀ W,wr.grownBy W none->Calls Tryz.prog 51 #[.slice x.ep x.en x.ec,.slice y.ep y.en y.ec] W fun e w'=>e = .returned (.bool true)/\Below W.heap.size W w'):=fun W hW=>by
        have h1:=((hgx.up hbl).up (below_none hW (Nat.le_refl _))).2.1
        have h2:=((hgy.up hbl).up (below_none hW (Nat.le_refl _))).2.1
        rw [hxy] at h2
        exact entries_same _ _ _ W h1 h2
      have hcx:=eight_grw (hc.below hbl hB)
      have hcy:=eight_grw (hc'.below hbl hB')
      unfold eight at hcx hcy
      rw [hxy] at hcy
      have HB:Hid (Below w.heap.size w wr):=hbl
      obtain ⟨⟨g,kk,l,s,t,rs,es,nx⟩,rp,rn,rc,ep,en,ec⟩:=x
      obtain ⟨yi,yrp,yrn,yrc,yep,yen,yec⟩:=y
      simp only at hcx hcy HR HE
      have a0:=fun p=>(hcx p).1
      have a1:=fun p=>(hcx p).2.1
      have a2:=fun p=>(hcx p).2.2.1
      have a3:=fun p=>(hcx p).2.2.2.1
      have a4:=fun p=>(hcx p).2.2.2.2.1
      have a5:=fun p=>(hcx p).2.2.2.2.2.1
      have a6:=fun p=>(hcx p).2.2.2.2.2.2.1
      have a7:=fun p=>(hcx p).2.2.2.2.2.2.2
      have b0:=fun p=>(hcy p).1
      have b1:=fun p=>(hcy p).2.1
      have b2:=fun p=>(hcy p).2.2.1
      have b3:=fun p=>(hcy p).2.2.2.1
      have b4:=fun p=>(hcy p).2.2.2.2.1
      have b5:=fun p=>(hcy p).2.2.2.2.2.1
      have b6:=fun p=>(hcy p).2.2.2.2.2.2.1
      have b7:=fun p=>(hcy p).2.2.2.2.2.2.2
      have hlt':(k:Int) < (n:Int):=by omega
      have hge:decide ((n:Int)<=(k:Int)) = false:=by simp;omega
      have hge2:decide (n<=k) = false:=by simp;omega
      have hne9:Nonempty (Grw wr):=grw_some wr
      clear hxk hyk hxy hc hc' hgx hgy hcx hcy hbl hB hB'
      go_wp2_with fail
      simp only [List.cons_append,List.nil_append,List.append_eq]
      refine wp_region_grw (by kernel_rfl) (by kernel_rfl) ?_
      repeat (go_big_quiet_step (first | (go_at_call 50;refine calls_grw (Grw.grown _) (HR.out _ (Grw.grown _))) | (go_at_call 51;refine calls_grw (Grw.grown _) (HE.out _ (Grw.grown _)))))
      refine wpQuiet_nil ?_
      rintro wq ⟨p,rfl⟩
      have HBq:Hid (Below w.heap.size w p.out):=HB.out.trans (p.below.mono HB.out.size)
      go_wp2
      go_roundw
      case rel=>exact ⟨k + 1,by omega,by go_num,HBq.out⟩
      case measure=>simp [intOf];omega
    · obtain rfl : k = n := by omega
      go_wp2
      go_ret
      exact ⟨by simp,hbl⟩
end Go.Proofs.YtggoccfddnpelaaGreatDoor
namespace Go.Proofs.YtggoccfddnpelaaGreatDoor.Os
open Go.ChangeShapes Go.WideShapes Go.ChangeAt Go.RowKit Go.Deep
set_option maxRecDepth 100000
set_option maxHeartbeats 1000000 in
theorem opens_same {S T:Nat->Prop} (u v:Value) (l:List Opn) (w:World) (hu:At EO S w u l) (hv:At EO T w v l) :
    Calls Tryz.prog 28 #[u,v] w fun e w'=>e = .returned (.bool true)/\Below w.heap.size w w':=by
  obtain ⟨ao,cap,rfl,hm,hx⟩:=hu.open
  obtain ⟨bo,cap',rfl,_,hy⟩:=hv.open
  clear hu hv
  unfold maxLen at hm
  obtain ⟨n,hn⟩:∃ n,l.length = n:=⟨_,rfl⟩
  rw [hn] at hm ⊢
  have HN:Hid (l.length = n):=hn
  have HX:Hid (∀ i x,l[i]? = some x->∃ b off,ao = some ⟨b,off,none⟩/\S b/\b < w.heap.size/\∀ k u,(EO.cells x)[k]? = some u->w.cell? ⟨b,off + (i * 4 + k),none⟩ = some u):=hx
  have HY:Hid (∀ i x,l[i]? = some x->∃ b off,bo = some ⟨b,off,none⟩/\T b/\b < w.heap.size/\∀ k u,(EO.cells x)[k]? = some u->w.cell? ⟨b,off + (i * 4 + k),none⟩ = some u):=hy
  clear hn hx hy
  go_enter Tryz.func28,Tryz.ntmps28
  go_wp2
  go_loopw [8] (fun i wr=>∃ k:Nat,k<=n/\i = .int .i64 k/\Below w.heap.size w wr) (fun i _=>n - (intOf i).toNat)
  case atStart=>exact ⟨0,Nat.zero_le _,rfl,Below.refl _ _⟩
  case round =>
    obtain ⟨k,hk,rfl,hbl⟩:=hrel
    by_cases hlt:k < n
    · obtain ⟨y, hyk⟩ : ∃ y, l[k]? = some y := ⟨_, List.getElem?_eq_getElem (by rw [HN.out]; exact hlt)⟩
      obtain ⟨b,off,rfl,_,hB,hc⟩:=HX.out k y hyk
      obtain ⟨b',off',rfl,_,hB',hc'⟩:=HY.out k y hyk
      have c0:=hc 0 _ rfl
      have c1:=hc 1 _ rfl
      have c2:=hc 2 _ rfl
      have c3:=hc 3 _ rfl
      have d0:=hc' 0 _ rfl
      have d1:=hc' 1 _ rfl
      have d2:=hc' 2 _ rfl
      have d3:=hc' 3 _ rfl
      rw [← hbl.cell (p:=⟨b,off + (k * 4 + 0),none⟩) hB,Nat.add_zero] at c0
      rw [← hbl.cell (p:=⟨b,off + (k * 4 + 1),none⟩) hB,← Nat.add_assoc] at c1
      rw [← hbl.cell (p:=⟨b,off + (k * 4 + 2),none⟩) hB,← Nat.add_assoc] at c2
      rw [← hbl.cell (p:=⟨b,off + (k * 4 + 3),none⟩) hB,← Nat.add_assoc] at c3
      rw [← hbl.cell (p:=⟨b',off' + (k * 4 + 0),none⟩) hB',Nat.add_zero] at d0
      rw [← hbl.cell (p:=⟨b',off' + (k * 4 + 1),none⟩) hB',← Nat.add_assoc] at d1
      rw [← hbl.cell (p:=⟨b',off' + (k * 4 + 2),none⟩) hB',← Nat.add_assoc] at d2
      rw [← hbl.cell (p:=⟨b',off' + (k * 4 + 3),none⟩) hB',← Nat.add_assoc] at d3
      obtain ⟨y0,y1,y2,y3⟩:=y
      simp only at c0 c1 c2 c3 d0 d1 d2 d3
      have hlt':(k:Int) < (n:Int):=by omega
      have hge:decide ((n:Int)<=(k:Int)) = false:=by simp;omega
      have hge2:decide (n<=k) = false:=by simp;omega
      clear hyk hc hc'
      go_wp2
      go_quiet (fail)
      go_wp2
      go_roundw
      case rel=>exact ⟨k + 1,by omega,by go_num,Go.below_drewN hbl _⟩
      case measure=>simp [intOf];omega
    · obtain rfl : k = n := by omega
      go_wp2
      go_ret
      exact ⟨by simp,hbl⟩
end Go.Proofs.YtggoccfddnpelaaGreatDoor.Os
namespace Go.Proofs.YtggoccfddnpelaaGreatDoor
open Go.ChangeShapes Go.WideShapes Go.ChangeAt Go.RowKit Go.Deep It
set_option maxRecDepth 100000
theorem two_st (w:World) (x y:Obj):Below w.heap.size w ((w.alloc x).alloc y):=((Below.refl _ _).alloc (Nat.le_refl _) _).alloc (by simp) _
set_option maxHeartbeats 4000000 in
theorem state_same {S T S2 T2 S3 T3:Nat->Prop} (vi vo vs ui uo us:Value) (dn:Int) (L M:List Rw) (O:List Os.Opn) (Z:List Es.Sea) (w:World) (h1:TabAt S w vi L) (h2:TabAt T w ui M) (hp:pl L = pl M) (h3:At Os.EO S2 w vo O) (h4:At Os.EO T2 w uo O) (h5:At Es.ES S3 w vs Z) (h6:At Es.ES T3 w us Z) :
    Calls Tryz.prog 12 #[VSt vi vo vs dn,VSt ui uo us dn] w fun e w'=>e = .returned (.bool true)/\Below w.heap.size w w':=by
  have H1:Hid (TabAt S w vi L):=h1
  have H2:Hid (TabAt T w ui M):=h2
  have H3:Hid (At Os.EO S2 w vo O):=h3
  have H4:Hid (At Os.EO T2 w uo O):=h4
  have H5:Hid (At Es.ES S3 w vs Z):=h5
  have H6:Hid (At Es.ES T3 w us Z):=h6
  have HP:Hid (pl L = pl M):=hp
  obtain ⟨a1,b1,e1,-,-⟩:=h1.open
  obtain ⟨a2,b2,e2,-,-⟩:=h2.open
  obtain ⟨a3,b3,e3,-,-⟩:=h3.open
  obtain ⟨a4,b4,e4,-,-⟩:=h4.open
  obtain ⟨a5,b5,e5,-,-⟩:=h5.open
  obtain ⟨a6,b6,e6,-,-⟩:=h6.open
  obtain ⟨n1,hn1⟩:∃ n,L.length = n:=⟨_,rfl⟩
  obtain ⟨n2,hn2⟩:∃ n,M.length = n:=⟨_,rfl⟩
  obtain ⟨n3,hn3⟩:∃ n,O.length = n:=⟨_,rfl⟩
  obtain ⟨n4,hn4⟩:∃ n,Z.length = n:=⟨_,rfl⟩
  rw [hn1] at e1
  rw [hn2] at e2
  rw [hn3] at e3 e4
  rw [hn4] at e5 e6
  subst e1 e2 e3 e4 e5 e6
  have t0:(dn == dn) = true:=beq_self_eq_true _
  have HW:Hid (∀ x y:Obj,Below w.heap.size w ((w.alloc x).alloc y)):=two_st w
  obtain ⟨W,hW⟩:∃ W,W = (w.alloc (BSt (.slice a1 n1 b1) (.slice a3 n3 b3) (.slice a5 n4 b5) dn)).alloc (BSt (.slice a2 n2 b2) (.slice a4 n3 b4) (.slice a6 n4 b6) dn):=⟨_,rfl⟩
  have HB:Hid (Below w.heap.size w W):=by show Below _ _ _;rw [hW];exact HW.out _ _
  have HX:Hid (W.heap[w.heap.size]? = some (BSt (.slice a1 n1 b1) (.slice a3 n3 b3) (.slice a5 n4 b5) dn)):=by show _ = _;rw [hW];exact (Below.heap_alloc _ _ _ (by simp)).trans (heap_alloc_new _ _)
  have HY:Hid (W.heap[w.heap.size + 1]? = some (BSt (.slice a2 n2 b2) (.slice a4 n3 b4) (.slice a6 n4 b6) dn)):=by show _ = _;rw [hW];have h:=heap_alloc_new (w.alloc (BSt (.slice a1 n1 b1) (.slice a3 n3 b3) (.slice a5 n4 b5) dn)) (BSt (.slice a2 n2 b2) (.slice a4 n3 b4) (.slice a6 n4 b6) dn);simpa using h
  clear h1 h2 h3 h4 h5 h6 hn1 hn2 hn3 hn4 hp
  go_enter Tryz.func12,Tryz.ntmps12
  go_wp2_with fail
  rw [← hW]
  clear hW
  refine (inodes_same _ _ L M _ (H1.out.up HB.out) (H2.out.up HB.out) HP.out).mono ?_
  rintro e' w1 ⟨rfl,hb1⟩
  have HB1:Hid (Below w.heap.size w w1):=HB.out.trans (hb1.mono HB.out.size)
  have HX1:Hid (w1.heap[w.heap.size]? = some (BSt (.slice a1 n1 b1) (.slice a3 n3 b3) (.slice a5 n4 b5) dn)):=(hb1.block _ (Array.getElem?_eq_some_iff.1 HX.out).1).trans HX.out
  have HY1:Hid (w1.heap[w.heap.size + 1]? = some (BSt (.slice a2 n2 b2) (.slice a4 n3 b4) (.slice a6 n4 b6) dn)):=(hb1.block _ (Array.getElem?_eq_some_iff.1 HY.out).1).trans HY.out
  obtain ⟨x0,x1,x2,x3⟩:=st_of HX1.out
  obtain ⟨y0,y1,y2,y3⟩:=st_of HY1.out
  clear hb1
  go_wp2_with fail
  refine (Os.opens_same _ _ O _ (H3.out.up HB1.out) (H4.out.up HB1.out)).mono ?_
  rintro e' w2 ⟨rfl,hb2⟩
  have HB2:Hid (Below w.heap.size w w2):=HB1.out.trans (hb2.mono HB1.out.size)
  have HX2:Hid (w2.heap[w.heap.size]? = some (BSt (.slice a1 n1 b1) (.slice a3 n3 b3) (.slice a5 n4 b5) dn)):=(hb2.block _ (Array.getElem?_eq_some_iff.1 HX1.out).1).trans HX1.out
  have HY2:Hid (w2.heap[w.heap.size + 1]? = some (BSt (.slice a2 n2 b2) (.slice a4 n3 b4) (.slice a6 n4 b6) dn)):=(hb2.block _ (Array.getElem?_eq_some_iff.1 HY1.out).1).trans HY1.out
  clear hb2 x0 x1 x2 x3 y0 y1 y2 y3
  obtain ⟨x0,x1,x2,x3⟩:=st_of HX2.out
  obtain ⟨y0,y1,y2,y3⟩:=st_of HY2.out
  go_wp2_with fail
  refine (Es.seats_same _ _ Z _ (H5.out.up HB2.out) (H6.out.up HB2.out)).mono ?_
  rintro e' w3 ⟨rfl,hb3⟩
  go_wp2
  go_ret
  exact ⟨rfl,HB2.out.trans (hb3.mono HB2.out.size)⟩
set_option maxHeartbeats 2000000 in
theorem nnew_any (w:World):Calls Tryz.prog 25 #[] w fun e w'=>∃ ap n cp L,e = .returned (VSt (.slice ap n cp) (.slice none 0 0) (.slice none 0 0) 0)/\TabAt (fun b=>w.heap.size<=b) w' (.slice ap n cp) L/\pl L = It.new/\Below w.heap.size w w':=by
  obtain ⟨W,hW⟩:∃ W,W = w.alloc BS0:=⟨_,rfl⟩
  have HB0:Hid (Below w.heap.size w W):=by show Below w.heap.size w W;rw [hW];exact (Below.refl _ w).alloc (Nat.le_refl _) _
  have HA0:Hid (W.heap[w.heap.size]? = some BS0):=by show W.heap[w.heap.size]? = _;rw [hW];exact heap_alloc_new _ _
  have hwW:w.heap.size < W.heap.size:=(Array.getElem?_eq_some_iff.1 HA0.out).1
  go_enter Tryz.func25,Tryz.ntmps25
  go_wp2_with fail
  rw [← hW]
  clear hW
  refine (new_any W).mono ?_
  rintro e w1 ⟨u,L,rfl,ht,hp,hb⟩
  obtain ⟨ap,cp,hu,-,-⟩:=ht.open
  obtain ⟨n,hn⟩:∃ n,L.length = n:=⟨_,rfl⟩
  rw [hn] at hu
  subst hu
  have HT1:Hid (TabAt (fun b=>w.heap.size < b) w1 (.slice ap n cp) L):=ht.imp (fun b hb _=>by omega)
  have HP1:Hid (pl L = It.new):=hp
  have HB1:Hid (Below w.heap.size w w1):=HB0.out.trans (hb.mono HB0.out.size)
  have HA1:Hid (w1.heap[w.heap.size]? = some BS0):=(hb.block _ hwW).trans HA0.out
  obtain ⟨f0,f1,f2,f3⟩:=st_of HA1.out
  have ff:=fr_at HA1.out
  clear ht hp hb hn
  go_wp2
  (try simp only [Exit.inBlock,Exit.then])
  refine bodyPost_ret (v:=VSt (.slice ap n cp) (.slice none 0 0) (.slice none 0 0) 0) ?_ rfl ⟨ap,n,cp,L,rfl,?_,HP1.out,?_⟩
  · rw [results_cell1 rfl]
    go_simp
  · exact (setCells_tab (A:=w.heap.size) (S:=fun b=>w.heap.size < b) (by omega) (cS (.slice ap n cp) (.slice none 0 0) (.slice none 0 0) 0) 0 w1 HT1.out).imp (fun b hb _=>by omega)
  · exact setCells_below (Nat.le_refl _) (cS (.slice ap n cp) (.slice none 0 0) (.slice none 0 0) 0) 0 w1 HB1.out
set_option maxHeartbeats 2000000 in
theorem mnew_any (w:World):Calls Tryz.prog 10 #[] w fun e w'=>∃ ap n cp L,e = .returned (VSt (.slice ap n cp) (.slice none 0 0) (.slice none 0 0) 0)/\TabAt (fun b=>w.heap.size<=b) w' (.slice ap n cp) L/\pl L = It.new/\Below w.heap.size w w':=by
  obtain ⟨W,hW⟩:∃ W,W = w.alloc BS0:=⟨_,rfl⟩
  have HB0:Hid (Below w.heap.size w W):=by show Below w.heap.size w W;rw [hW];exact (Below.refl _ w).alloc (Nat.le_refl _) _
  have HA0:Hid (W.heap[w.heap.size]? = some BS0):=by show W.heap[w.heap.size]? = _;rw [hW];exact heap_alloc_new _ _
  have hwW:w.heap.size < W.heap.size:=(Array.getElem?_eq_some_iff.1 HA0.out).1
  go_enter Tryz.func10,Tryz.ntmps10
  go_wp2_with fail
  rw [← hW]
  clear hW
  refine (nnew_any W).mono ?_
  rintro e w1 ⟨ap,n,cp,L,rfl,ht,hp,hb⟩
  have HT1:Hid (TabAt (fun b=>w.heap.size < b) w1 (.slice ap n cp) L):=ht.imp (fun b hb _=>by omega)
  have HP1:Hid (pl L = It.new):=hp
  have HB1:Hid (Below w.heap.size w w1):=HB0.out.trans (hb.mono HB0.out.size)
  have HA1:Hid (w1.heap[w.heap.size]? = some BS0):=(hb.block _ hwW).trans HA0.out
  obtain ⟨f0,f1,f2,f3⟩:=st_of HA1.out
  have ff:=fr_at HA1.out
  clear ht hp hb
  go_wp2
  (try simp only [Exit.inBlock,Exit.then])
  refine bodyPost_ret (v:=VSt (.slice ap n cp) (.slice none 0 0) (.slice none 0 0) 0) ?_ rfl ⟨ap,n,cp,L,rfl,?_,HP1.out,?_⟩
  · rw [results_cell1 rfl]
    go_simp
  · exact (setCells_tab (A:=w.heap.size) (S:=fun b=>w.heap.size < b) (by omega) (cS (.slice ap n cp) (.slice none 0 0) (.slice none 0 0) 0) 0 w1 HT1.out).imp (fun b hb _=>by omega)
  · exact setCells_below (Nat.le_refl _) (cS (.slice ap n cp) (.slice none 0 0) (.slice none 0 0) 0) 0 w1 HB1.out
end Go.Proofs.YtggoccfddnpelaaGreatDoor
namespace Go.Proofs.YtggoccfddnpelaaGreatDoor
open It Go.RowKit
set_option maxRecDepth 100000
namespace Sh
theorem new_dir {nx:Int} (h:0<=nx/\nx<=1099511627776):Fo.Right [] nx:=⟨h,fun i hi=>by simp at hi,by simp [Fo.apart]⟩
theorem new_folds:Sp.folds new:=fun x hx=>by
  simp [new,fresh] at hx
  subst hx
  exact fun _=>⟨new_dir (by decide),rfl⟩
theorem new_sp:Sp.isSp new = true:=Sp.isSp_iff.2 ⟨by decide,new_folds,by decide,by decide⟩
theorem new_right:Nf.right new [] 0 = true:=by
  have h2:(Os.Op.right 0 [] && (Nf.filesOk new [] && (decide (allBytes new<=8192) && Nf.doneOk new 0))) = true:=by decide +kernel
  unfold Nf.right
  rw [new_sp,h2]
  rfl
theorem new_whole:whole new [] [] 0 = true:=by
  unfold whole
  rw [new_right]
  rfl
def newB:ByteArray:=⟨#[1,0,6,0,0,0,0,0,0,2,0,27,1,0,24,0,0,0,0,0,1,2,1,0,0,0,0,0,0,0,0,0,0,0,0,0,0,0,0]⟩
theorem new_bytes:Ks.Pl.packOut (fS new [] [] 0) = newB:=by decide +kernel
theorem new_err:Ks.Pl.packErr 1 (fS new [] [] 0) = 0:=by decide +kernel
theorem new_pk:pkO new [] [] 0 = newB/\pkE new [] [] 0 = 0:=by
  unfold pkO pkE
  rw [if_pos new_whole,if_pos new_whole,new_bytes,new_err]
  exact ⟨rfl,rfl⟩
theorem back_is {L:List Ino} {O:List Os.Opn} {Z:List Es.Sea} {dn:Int} (h:pkE L O Z dn = 0):unpS (pkO L O Z dn) = ⟨L,O,Z,dn⟩/\unpE (pkO L O Z dn) = 0/\(rdS (pkO L O Z dn)).L = L:=by
  obtain ⟨-,h1,-⟩:=pk_back h
  have hi:isS ⟨L,O,Z,dn⟩ (pkO L O Z dn) = true:=(isS_iff _ _).2 ⟨h,rfl⟩
  obtain ⟨h2,h3⟩:=unp_yes (.inl h1.symm) hi
  exact ⟨h2,h3,by rw [h1]⟩
end Sh
end Go.Proofs.YtggoccfddnpelaaGreatDoor
namespace Go.Proofs.YtggoccfddnpelaaGreatDoor
open Go.ChangeShapes Go.WideShapes Go.ChangeAt Go.RowKit Go.Deep It
set_option maxRecDepth 100000
theorem Sh.new_okN {L:List Rw} (h:pl L = It.new):Sp.okN L:=fun r hr=>by
  have:r.i∈It.new:=by rw [← h];exact List.mem_map.2 ⟨r,hr,rfl⟩
  simp [It.new,It.fresh] at this
  rw [this]
  intro e he
  cases he
theorem Sh.new_sm:Sh.Sm It.new:=Sh.sm_of (by decide)
theorem Sh.new_unp:Sh.unpS Sh.newB = ⟨It.new,[],[],0⟩/\Sh.unpE Sh.newB = 0/\(Sh.rdS Sh.newB).L = It.new:=by
  have:=Sh.back_is Sh.new_pk.2
  rwa [Sh.new_pk.1] at this
theorem Sh.new_okS:∀ y∈It.new,okI y/\∀ e∈y.ents,e.1.size<=maxLen:=fun y hy=>by
  simp [It.new,It.fresh] at hy
  subst hy
  exact ⟨⟨fun r hr=>(by cases hr),by simp,by simp⟩,fun e he=>(by cases he)⟩
set_option maxHeartbeats 4000000 in
theorem empty_any (w:World):Calls Tryz.prog 5 #[] w fun e w'=>e = .returned (.bool true)/\Below w.heap.size w w':=by
  go_enter Tryz.func5,Tryz.ntmps5
  go_wp2_with fail
  refine (mnew_any w).mono ?_
  rintro e w1 ⟨ap,n,cp,L,rfl,ht,hp,hb1⟩
  have HT1:Hid (TabAt (fun b=>w.heap.size<=b) w1 (.slice ap n cp) L):=ht
  have HB1:Hid (Below w.heap.size w w1):=hb1
  have HP:Hid (pl L = It.new):=hp
  clear ht hp hb1
  go_wp2_with fail
  refine (shpack_any _ _ _ 0 L [] [] _ HT1.out (Sh.new_okN HP.out) At.nil At.nil (fun _=>by rw [HP.out];exact Sh.new_sm)).mono ?_
  rintro e w2 ⟨rfl,hb2⟩
  rw [HP.out,Sh.new_pk.1,Sh.new_pk.2]
  have HB2:Hid (Below w.heap.size w w2):=HB1.out.trans (hb2.mono HB1.out.size)
  have HU:Hid (∀ V,Calls Tryz.prog 11 #[.string Sh.newB] V fun e w'=>∃ L vi vo vz,e = .returned (.tuple #[.agg #[vi,vo,vz,.int .i64 0],.int .i64 0])/\US V.heap.size ⟨It.new,[],[],0⟩ L vi vo vz w'/\Below V.heap.size V w'):=fun V=>by
    have h:=shunp_any Sh.newB V (by decide) (by rw [Sh.new_unp.2.2];exact Sh.new_sm)
    rwa [Sh.new_unp.1,Sh.new_unp.2.1] at h
  have hsz:Sh.newB.size = 39:=rfl
  have hcut:((Sh.newB.extract 0 15).toList == [1,0,6,0,0,0,0,0,0,2,0,27,1,0,24]) = true:=by decide +kernel
  generalize Sh.newB = B at HU hsz hcut ⊢
  clear hb2 HT1 HP HB1
  go_wp2_with fail
  refine (HU.out _).mono ?_
  rintro e w3 ⟨L2,vi,vo,vz,rfl,hu,hb3⟩
  obtain ⟨⟨ia,im,ic,rfl⟩,⟨oa,om,oc,rfl⟩,za,zm,zc,rfl⟩:=hu.slices
  have HB3:Hid (Below w.heap.size w w3):=HB2.out.trans (hb3.mono HB2.out.size)
  obtain ⟨W4,hW4⟩:∃ V,V = w3.alloc (BSt (.slice ia im ic) (.slice oa om oc) (.slice za zm zc) 0):=⟨_,rfl⟩
  obtain ⟨A4,hA4⟩:∃ n,n = w3.heap.size:=⟨_,rfl⟩
  have HS4:Hid (US w2.heap.size ⟨It.new,[],[],0⟩ L2 (.slice ia im ic) (.slice oa om oc) (.slice za zm zc) W4):=by show US _ _ _ _ _ _ _;rw [hW4];exact hu.up ((Below.refl _ _).alloc (Nat.le_refl _) _)
  have HX4:Hid (W4.heap[A4]? = some (BSt (.slice ia im ic) (.slice oa om oc) (.slice za zm zc) 0)):=by show _ = _;rw [hW4,hA4];exact heap_alloc_new _ _
  have HB4:Hid (Below w.heap.size w W4):=by show Below _ _ _;rw [hW4];exact HB3.out.alloc HB3.out.size _
  have HSG:Hid (∀ V:World,Below W4.heap.size W4 V->V.cell? ⟨A4,0,none⟩ = some (.slice ia im ic)/\V.cell? ⟨A4,1,none⟩ = some (.slice oa om oc)/\V.cell? ⟨A4,2,none⟩ = some (.slice za zm zc)/\V.cell? ⟨A4,3,none⟩ = some (.int .i64 0)):=fun V h=>by
    obtain ⟨a0,a1,a2,a3⟩:=st_of HX4.out
    exact ⟨cell_step a0 h,cell_step a1 h,cell_step a2 h,cell_step a3 h⟩
  have HSC:Hid (∀ (V:World) (ap:Option Addr) (n cp:Nat) (L5:List Rw),Below W4.heap.size W4 V->TabW V (.slice ap n cp) L5->pl L5 = It.new->Calls Tryz.prog 12 #[VSt (.slice ia im ic) (.slice oa om oc) (.slice za zm zc) 0,VSt (.slice ap n cp) (.slice none 0 0) (.slice none 0 0) 0] V fun e w'=>e = .returned (.bool true)/\Below V.heap.size V w'):=fun V ap n cp L5 h1 h2 h3 =>
    state_same (T2:=fun _=>True) (T3:=fun _=>True) _ _ _ _ _ _ 0 L2 L5 [] [] V ((HS4.out.tab Sh.new_okS).up h1) h2 (by rw [HS4.out.eq,h3]) (HS4.out.opens.up h1) At.nil (HS4.out.seats.up h1) At.nil
  clear hu hb3 HB2 HU
  go_wp2_with fail
  rw [← hW4,← hA4]
  clear hW4 hA4
  go_region_held3 (fun V=>V.cell? ⟨A4,0,none⟩ = some (.slice ia im ic)/\V.cell? ⟨A4,1,none⟩ = some (.slice oa om oc)/\V.cell? ⟨A4,2,none⟩ = some (.slice za zm zc)/\V.cell? ⟨A4,3,none⟩ = some (.int .i64 0)) (first | exact HSG.out _ (by (repeat (first | with_reducible assumption | exact Below.refl _ _ | refine bel_drew ?_)))) (first
    | (go_at_call 10;refine (mnew_any _).mono ?_;rintro e w5 ⟨ap5,n5,cp5,L5,rfl,ht5,hp5,hb5⟩;have hb55:Below W4.heap.size W4 w5:=(by first | exact undrew hb5 | exact hb5);have HT5:Hid (TabW w5 (.slice ap5 n5 cp5) L5/\pl L5 = It.new):=⟨ht5.wide,hp5⟩;clear hb5 ht5 hp5)
    | (go_at_call 12;refine (HSC.out _ _ _ _ _ hb55 HT5.out.1 HT5.out.2).mono ?_;rintro e w6 ⟨rfl,hb6⟩;have hb66:Below W4.heap.size W4 w6:=hb55.trans (hb6.mono hb55.size)))
  all_goals
    have HB6:Hid (Below w.heap.size w w6):=HB4.out.trans (hb66.mono HB4.out.size)
    go_wp2
    go_ret
    exact ⟨rfl,HB6.out⟩
theorem lrun_cells {w:World} {ao:Option Addr} {cap:Nat} {l:List (Int × ByteArray)} {S:Nat->Prop} (h:At ER S w (.slice ao l.length cap) l) {k:Nat} {r:Int × ByteArray} (hk:l[k]? = some r):∃ b off,ao = some ⟨b,off,none⟩/\b < w.heap.size/\w.cell? ⟨b,off + k * 2,none⟩ = some (.int .i64 r.1)/\w.cell? ⟨b,off + k * 2 + 1,none⟩ = some (.string r.2):=by
  obtain ⟨ao',cap',he,-,hx⟩:=h.open
  injection he with h1 h2 h3
  subst h1
  obtain ⟨b,off,hb,-,hB,hc⟩:=hx k r hk
  exact ⟨b,off,hb,hB,hc 0 _ rfl,hc 1 _ rfl⟩
/-- A number, but for what Go's int can't hold. -/
def Cg (q:Int) (n:Nat):Prop:=(-9223372036854775808<=q/\q<=9223372036854775807)/\∃ z:Int,q = (n:Int) + z * 18446744073709551616
theorem Cg.add {q:Int} {n:Nat} (h:Cg q n) (m:Nat):Cg (wrap64 (q + (m:Int))) (n + m):=by
  obtain ⟨h1,z,h2⟩:=h
  unfold wrap64
  exact ⟨by omega,z - (q + (m:Int) + 9223372036854775808) / 18446744073709551616,by omega⟩
theorem Cg.small {q:Int} {n:Nat} (h:Cg q n) (hn:n<=562949953421312):q = (n:Int):=by
  obtain ⟨⟨h1,h2⟩,z,h3⟩:=h
  omega
theorem Sh.wts_take {L:List Ino} {k:Nat} {x:Ino} (h:L[k]? = some x):Sh.wts (L.take (k + 1)) = Sh.wts (L.take k) + Sh.wt x:=by
  obtain ⟨hl,rfl⟩:=List.getElem?_eq_some_iff.1 h
  unfold Sh.wts
  rw [List.take_succ_eq_append_getElem hl,List.map_append,List.sum_append]
  simp
theorem Sh.tot_take {l:List (Int × ByteArray)} {k:Nat} {x:Int × ByteArray} (h:l[k]? = some x):Nf.tot (l.take (k + 1)) = Nf.tot (l.take k) + x.2.size:=by
  obtain ⟨hl,rfl⟩:=List.getElem?_eq_some_iff.1 h
  unfold Nf.tot Bs.Bl.total
  rw [List.take_succ_eq_append_getElem hl,List.map_append,List.sum_append]
  simp
set_option maxHeartbeats 4000000 in
theorem shlarge_any {S : Nat → Prop} (vi : Value) (op : Option Addr) (on oc : Nat) (sp : Option Addr) (sn sc : Nat) (dn : Int) (L : List Rw) (O : List Os.Opn) (Z : List Es.Sea) (w : World) (hv : TabAt S w vi L) (ho : O.length = on) (hz : Z.length = sn) (hom : on ≤ maxLen) (hzm : sn ≤ maxLen) :
    Calls Tryz.prog 4 #[VSt vi (.slice op on oc) (.slice sp sn sc) dn] w fun e w'=>(∃ b:Bool,e = .returned (.bool b)/\(b = false->Sh.whole (pl L) O Z dn = true->Sh.wts (pl L)<=12000))/\Below w.heap.size w w':=by
  have HV:Hid (TabAt S w vi L):=hv
  have HLE:Hid (Sh.whole (pl L) O Z dn = true->Sh.wts (pl L) + on + sn<=562949953421312):=fun h=>by
    have:=Sh.whole_wts h fun x hx=>by
      obtain ⟨r,hr,rfl⟩:=List.mem_map.1 hx
      obtain ⟨-,-,-,h2,h3⟩:=hv.2 r hr
      exact ⟨h2,by omega⟩
    omega
  obtain ⟨ao,cap,rfl,hm,-⟩:=hv.open
  unfold maxLen at hm hom hzm
  obtain ⟨n,hn⟩:∃ n,L.length = n:=⟨_,rfl⟩
  have HN:Hid (L.length = n):=hn
  rw [hn] at hm HV ⊢
  have HC0:Hid (Cg (wrap64 ((on:Int) + (sn:Int))) (on + sn + Sh.wts ((pl L).take 0))):=by
    have h:Cg (on:Int) on:=⟨by omega,0,by omega⟩
    exact h.add sn
  clear hv hn ho hz
  go_enter Tryz.func4,Tryz.ntmps4
  go_wp2_with fail
  obtain ⟨W,hW⟩:∃ W,W = w.alloc (BSt (.slice ao n cap) (.slice op on oc) (.slice sp sn sc) dn):=⟨_,rfl⟩
  have HBW:Hid (Below w.heap.size w W):=by show Below _ _ _;rw [hW];exact (Below.refl _ w).alloc (Nat.le_refl _) _
  have HA:Hid (W.heap[w.heap.size]? = some (BSt (.slice ao n cap) (.slice op on oc) (.slice sp sn sc) dn)):=by show _ = _;rw [hW];exact heap_alloc_new _ _
  have HVW:Hid (TabAt S W (.slice ao n cap) L):=HV.out.up HBW.out
  rw [← hW]
  clear hW HV
  go_loopw [3,18] (fun g i wr=>∃ (k:Nat) (q:Int),k<=n/\i = .int .i64 k/\g = .int .i64 q/\Hid (Cg q (on + sn + Sh.wts ((pl L).take k)))/\Hid (Below W.heap.size W wr)) (fun _ i _=>n - (intOf i).toNat)
  case atStart=>exact ⟨0,_,Nat.zero_le _,rfl,rfl,HC0.out,Below.refl _ _⟩
  case round =>
    obtain ⟨k,q,hk,rfl,rfl,HQ,HB⟩:=hrel
    have hsz:=HB.out.size
    by_cases hlt:k < n
    · obtain ⟨x, hxk⟩ : ∃ x, L[k]? = some x := ⟨_, List.getElem?_eq_getElem (by rw [HN.out]; exact hlt)⟩
      obtain ⟨⟨b,off,rfl,hB,hc⟩,-,-,-⟩:=tab_eight HVW.out hxk
      have HG:Hid (Good S W x):=HVW.out.2 x (List.mem_of_getElem? hxk)
      have HW2:Hid (Sh.wts ((pl L).take (k + 1)) = Sh.wts ((pl L).take k) + Sh.wt x.i):=Sh.wts_take (by simp [pl,hxk])
      obtain ⟨rn,hrn⟩:∃ r,x.rn = r:=⟨_,rfl⟩
      obtain ⟨en,hen⟩:∃ r,x.en = r:=⟨_,rfl⟩
      have HRN:Hid (x.i.runs.length = rn/\x.i.ents.length = en):=⟨HG.out.len.1.symm.trans hrn,HG.out.len.2.symm.trans hen⟩
      have hrm:rn<=5864062014805:=by have h:=HG.out.2.2.2.1;have h2:=HRN.out;omega
      have HAR:Hid (At ER S W (.slice x.rp x.i.runs.length x.rc) x.i.runs):=by have h:=HG.out.1;rw [HG.out.len.1] at h;exact h
      obtain ⟨c0,c1,c2,c3,c4,c5,c6,c7⟩:=hc.below HB.out hB
      have hlt':(k:Int) < (n:Int):=by omega
      rw [hrn] at c5
      rw [hen] at c6
      obtain ⟨V,hV⟩:∃ V,V = wr.alloc (.cells #[.int .i64 x.i.gen,.int .i64 x.i.kind,.int .i64 x.i.links,.int .i64 x.i.size,.int .i64 x.i.stamp,.slice x.rp rn x.rc,.slice x.ep en x.ec,.int .i64 x.i.next] 43):=⟨_,rfl⟩
      have HBV:Hid (Below W.heap.size W V):=by show Below _ _ _;rw [hV];exact HB.out.alloc hsz _
      have HQ2:Hid (Cg (wrap64 (wrap64 (q + (en:Int)) + (rn:Int))) (on + sn + Sh.wts ((pl L).take k) + en + rn)):=(HQ.out.add en).add rn
      clear hc hxk hrn hen HG HQ
      go_wp2_with fail
      rw [← hV]
      clear hV c0 c1 c2 c3 c4 c5 c6 c7
      go_loopw [3,34] (fun g i vr=>∃ (j:Nat) (p:Int),j<=rn/\i = .int .i64 j/\g = .int .i64 p/\Hid (Cg p (on + sn + Sh.wts ((pl L).take k) + en + rn + Nf.tot (x.i.runs.take j)))/\Hid (Below W.heap.size W vr)) (fun _ i _=>rn - (intOf i).toNat)
      case atStart=>exact ⟨0,_,Nat.zero_le _,rfl,rfl,HQ2.out,HBV.out⟩
      case round =>
        obtain ⟨j,p,hj,rfl,rfl,HPQ,HBR⟩:=hrel
        have hsr:=HBR.out.size
        by_cases hjl:j < rn
        · obtain ⟨r, hr⟩ : ∃ r, x.i.runs[j]? = some r := ⟨_, List.getElem?_eq_getElem (by rw [HRN.out.1]; exact hjl)⟩
          obtain ⟨b2,off2,hrp,hB2,d0,d1⟩:=lrun_cells HAR.out hr
          rw [hrp]
          rw [← HBR.out.cell (p:=⟨b2,off2 + j * 2,none⟩) hB2] at d0
          rw [← HBR.out.cell (p:=⟨b2,off2 + j * 2 + 1,none⟩) hB2] at d1
          have hjl':(j:Int) < (rn:Int):=by omega
          have HQ3:Hid (Cg (wrap64 (p + (r.2.size:Int))) (on + sn + Sh.wts ((pl L).take k) + en + rn + Nf.tot (x.i.runs.take (j + 1)))):=by
            show Cg _ _
            rw [Sh.tot_take hr,← Nat.add_assoc]
            exact HPQ.out.add _
          clear hr hrp HPQ
          go_wp2
          go_roundw
          case rel=>exact ⟨j + 1,_,by omega,by go_num,rfl,HQ3.out,HBR.out.alloc hsr _⟩
          case measure=>simp [intOf];omega
        · obtain rfl : j = rn := by omega
          have HQ4:Hid (Cg p (on + sn + Sh.wts ((pl L).take (k + 1)))):=by
            show Cg _ _
            rw [HW2.out]
            have e:x.i.runs.take j = x.i.runs:=List.take_of_length_le (by rw [HRN.out.1];exact Nat.le_refl _)
            have h:=HPQ.out
            rw [e] at h
            unfold Sh.wt
            rw [HRN.out.1,HRN.out.2]
            have e2:on + sn + (Sh.wts ((pl L).take k) + (en + j + Nf.tot x.i.runs)) = on + sn + Sh.wts ((pl L).take k) + en + j + Nf.tot x.i.runs:=by omega
            rw [e2]
            exact h
          go_wp2
          go_roundw
          case rel=>exact ⟨k + 1,_,by omega,by go_num,rfl,HQ4.out,HBR.out⟩
          case measure=>simp [intOf];omega
    · obtain rfl : k = n := by omega
      have HQ5:Hid (Sh.whole (pl L) O Z dn = true->q<=12000->Sh.wts (pl L)<=12000):=fun h h1=>by
        have e:(pl L).take k = pl L:=List.take_of_length_le (by rw [← HN.out];simp [pl])
        have h2:=HQ.out
        rw [e] at h2
        have h3:=HLE.out h
        have h4:=h2.small (by omega)
        omega
      obtain ⟨t0,t1,t2,t3⟩:=st_of ((HB.out.block _ (Array.getElem?_eq_some_iff.1 HA.out).1).trans HA.out)
      have HF:Hid (Below w.heap.size w wr):=HBW.out.trans (HB.out.mono HBW.out.size)
      by_cases h12:12000 < q
      · have hb12 : decide (12000 < q) = true := by simpa using h12
        go_wp2
        all_goals
          go_ret
          exact ⟨by first | exact .inr rfl | exact ⟨_,rfl,fun h=>by simp at h⟩,HF.out⟩
      · have hb12 : decide (12000 < q) = false := by simpa using h12
        by_cases h100:(100:Int) < (k:Int)
        all_goals
          go_wp2
          all_goals
            go_ret
            exact ⟨by first | exact .inr rfl | exact .inl ⟨rfl,fun hw=>HQ5.out hw (by omega)⟩ | exact ⟨_,rfl,fun _ hw=>HQ5.out hw (by omega)⟩,HF.out⟩
set_option maxHeartbeats 8000000 in
theorem shPacks_any {S:Nat->Prop} (vi vo:Value) (sp:Option Addr) (sn sc:Nat) (dn:Int) (L:List Rw) (O:List Os.Opn) (Z:List Es.Sea) (w:World) (hv:TabAt S w vi L) (hok:Sp.okN L) (ho:AtW Os.EO w vo O) (hz:AtW Es.ES w (.slice sp sn sc) Z) (ht:Po.Tab w) :
    Calls Tryz.prog 3 #[VSt vi vo (.slice sp sn sc) dn] w fun e w'=>e = .returned (.bool true)/\Below w.heap.size w w':=by
  obtain ⟨ia,ic,hi,-,-⟩:=hv.open
  obtain ⟨oa,oc,hoo,hom,-⟩:=ho.open
  obtain ⟨za,zc,hzz,hzm,-⟩:=hz.open
  injection hzz with hz1 hz2 hz3
  subst hz1 hz3
  obtain ⟨n,hn⟩:∃ n,L.length = n:=⟨_,rfl⟩
  obtain ⟨on,hon⟩:∃ n,O.length = n:=⟨_,rfl⟩
  rw [hn] at hi
  rw [hon] at hoo hom
  rw [← hz2] at hzm
  subst hi hoo
  obtain ⟨W,hW⟩:∃ V,V = w.alloc (BSt (.slice ia n ic) (.slice oa on oc) (.slice sp sn sc) dn):=⟨_,rfl⟩
  have HBW:Hid (Below w.heap.size w W):=by show Below _ _ _;rw [hW];exact (Below.refl _ w).alloc (Nat.le_refl _) _
  have HXW:Hid (W.heap[w.heap.size]? = some (BSt (.slice ia n ic) (.slice oa on oc) (.slice sp sn sc) dn)):=by show _ = _;rw [hW];exact heap_alloc_new _ _
  have HVW:Hid (TabAt S W (.slice ia n ic) L):=hv.up HBW.out
  have HOW:Hid (AtW Os.EO W (.slice oa on oc) O):=ho.up HBW.out
  have HZW:Hid (AtW Es.ES W (.slice sp sn sc) Z):=hz.up HBW.out
  have HTW:Hid (Po.Tab W):=potab_up ht HBW.out
  have HL:Hid (∀ V,Below W.heap.size W V->Calls Tryz.prog 4 #[VSt (.slice ia n ic) (.slice oa on oc) (.slice sp sn sc) dn] V fun e w'=>(∃ b:Bool,e = .returned (.bool b)/\(b = false->Sh.whole (pl L) O Z dn = true->Sh.wts (pl L)<=12000))/\Below V.heap.size V w'):=fun V h=>shlarge_any _ _ _ _ _ _ _ _ L O Z V (HVW.out.up h) hon hz2.symm hom hzm
  have HOK:Hid (Sp.okN L):=hok
  clear hv hok ho hz hn hon hz2 hom hzm ht
  obtain ⟨x0,x1,x2,x3⟩:=st_of HXW.out
  rw [hW] at x0 x1 x2 x3
  go_enter Tryz.func3,Tryz.ntmps3
  go_wp2_with fail
  rw [← hW]
  clear hW
  refine (HL.out _ (Below.refl _ _)).mono ?_
  rintro e w1 ⟨⟨bl,rfl,hbl⟩,hb1⟩
  have HBL:Hid (bl = false->Sh.whole (pl L) O Z dn = true->Sh.wts (pl L)<=12000):=hbl
  have HW1:Hid (Below W.heap.size W w1):=hb1
  clear hbl hb1 x0 x1 x2 x3 HL
  cases bl with
  | true =>
    go_wp2_with fail
    refine (empty_any _).mono ?_
    rintro e w4 ⟨rfl,hb4⟩
    go_wp2
    go_ret
    exact ⟨rfl,HBW.out.trans ((HW1.out.trans (hb4.mono HW1.out.size)).mono HBW.out.size)⟩
  | false =>
  have HWT:Hid (Sh.whole (pl L) O Z dn = true->Sh.wts (pl L)<=12000):=HBL.out rfl
  have HST:Hid (∀ V,Below W.heap.size W V->V.cell? ⟨w.heap.size,0,none⟩ = some (.slice ia n ic)/\V.cell? ⟨w.heap.size,1,none⟩ = some (.slice oa on oc)/\V.cell? ⟨w.heap.size,2,none⟩ = some (.slice sp sn sc)/\V.cell? ⟨w.heap.size,3,none⟩ = some (.int .i64 dn)):=fun V h=>st_of ((h.block _ (Array.getElem?_eq_some_iff.1 HXW.out).1).trans HXW.out)
  have H1:Hid (∀ V,Below W.heap.size W V->Calls Tryz.prog 6 #[VSt (.slice ia n ic) (.slice oa on oc) (.slice sp sn sc) dn] V fun e w'=>e = .returned (.tuple #[.string (Sh.pkO (pl L) O Z dn),.int .i64 (Sh.pkE (pl L) O Z dn)])/\Below V.heap.size V w'):=fun V h=>shpack_any _ _ _ _ L O Z V (HVW.out.up h) HOK.out (HOW.out.up h) (HZW.out.up h) (fun h=>Sh.sm_of (HWT.out h))
  have H2:Hid (∀ V,Below W.heap.size W V->Calls Tryz.prog 7 #[VSt (.slice ia n ic) (.slice oa on oc) (.slice sp sn sc) dn] V fun e w'=>e = .returned (.tuple #[.string (Sh.pkO (pl L) O Z dn),.int .i64 (Sh.pkE (pl L) O Z dn)])/\Below V.heap.size V w'):=fun V h=>rpackS_any _ _ _ _ L O Z V (HVW.out.up h) HOK.out (HOW.out.up h) (HZW.out.up h) (fun h=>Sh.sm_of (HWT.out h))
  have H3:Hid (∀ V,Below W.heap.size W V->Calls Tryz.prog 8 #[VSt (.slice ia n ic) (.slice oa on oc) (.slice sp sn sc) dn] V fun e w'=>e = .returned (.tuple #[.int .i64 (Sh.dgN (pl L) O Z dn),.int .i64 (Sh.pkE (pl L) O Z dn)])/\Below V.heap.size V w'):=fun V h=>shdig_any _ _ _ _ L O Z V (HVW.out.up h) HOK.out (HOW.out.up h) (HZW.out.up h) HWT.out (potab_up HTW.out h)
  have H4:Hid (∀ V,Below W.heap.size W V->Calls Tryz.prog 9 #[VSt (.slice ia n ic) (.slice oa on oc) (.slice sp sn sc) dn] V fun e w'=>e = .returned (.tuple #[.int .i64 (Sh.dgN (pl L) O Z dn),.int .i64 (Sh.pkE (pl L) O Z dn)])/\Below V.heap.size V w'):=fun V h=>rdig_any _ _ _ _ L O Z V (HVW.out.up h) HOK.out (HOW.out.up h) (HZW.out.up h) HWT.out
  generalize Sh.pkO (pl L) O Z dn = po at H1 H2
  generalize Sh.pkE (pl L) O Z dn = pe at H1 H2 H3 H4
  generalize Sh.dgN (pl L) O Z dn = q at H3 H4
  clear HBL HWT HVW HOW HZW HTW HOK HXW
  obtain ⟨x0,x1,x2,x3⟩:=HST.out _ HW1.out
  go_wp2_with fail
  refine (H1.out _ HW1.out).mono ?_
  rintro e w2 ⟨rfl,hb2⟩
  have HW2:Hid (Below W.heap.size W w2):=HW1.out.trans (hb2.mono HW1.out.size)
  clear hb2 x0 x1 x2 x3 H1
  obtain ⟨x0,x1,x2,x3⟩:=HST.out _ HW2.out
  go_wp2_with fail
  refine (H2.out _ HW2.out).mono ?_
  rintro e w3 ⟨rfl,hb3⟩
  have HW3:Hid (Below W.heap.size W w3):=HW2.out.trans (hb3.mono HW2.out.size)
  clear hb3 x0 x1 x2 x3 H2 HW2
  obtain ⟨x0,x1,x2,x3⟩:=HST.out _ HW3.out
  go_wp2_with fail
  refine (H3.out _ HW3.out).mono ?_
  rintro e w4 ⟨rfl,hb4⟩
  have HW4:Hid (Below W.heap.size W w4):=HW3.out.trans (hb4.mono HW3.out.size)
  clear hb4 x0 x1 x2 x3 H3 HW3
  obtain ⟨x0,x1,x2,x3⟩:=HST.out _ HW4.out
  go_wp2_with fail
  refine (H4.out _ HW4.out).mono ?_
  rintro e w5 ⟨rfl,hb5⟩
  have HB5:Hid (Below w.heap.size w w5):=HBW.out.trans ((HW4.out.trans (hb5.mono HW4.out.size)).mono HBW.out.size)
  clear hb5 x0 x1 x2 x3 H4 HW4 HST
  have t1:(po.toList == po.toList) = true:=beq_self_eq_true _
  have t2:(pe == pe) = true:=beq_self_eq_true _
  have t3:(q == q) = true:=beq_self_eq_true _
  go_wp2_with fail
  refine (empty_any _).mono ?_
  rintro e w6 ⟨rfl,hb6⟩
  go_wp2
  go_ret
  exact ⟨rfl,HB5.out.trans (hb6.mono HB5.out.size)⟩
end Go.Proofs.YtggoccfddnpelaaGreatDoor
