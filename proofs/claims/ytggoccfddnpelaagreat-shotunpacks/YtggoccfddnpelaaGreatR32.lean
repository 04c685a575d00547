/- ZUn, ZEr, Same, OLeaving, ORef, OSame, ZSm, ZNw, ZNs, as one. -/
import Derived.Test.YtggoccfddnpelaaGreatR31
namespace Go.Proofs.YtggoccfddnpelaaGreat
open Go.ChangeShapes Go.WideShapes Go.ChangeAt Go.RowKit Go.Deep It
set_option maxRecDepth 100000
set_option maxHeartbeats 4000000 in
theorem shunp_any (s : ByteArray) (w : World) (hs : s.size ≤ 1048576) (hm : Sh.Sm (Sh.rdS s).L) :
    Calls Tryz.prog 6 #[.string s] w fun e w'=>∃ L vi vo vz,e = .returned (.tuple #[.agg #[vi,vo,vz,.int .i64 (Sh.unpS s).dn],.int .i64 (Sh.unpE s)])/\US w.heap.size (Sh.unpS s) L vi vo vz w'/\Below w.heap.size w w':=by
  obtain ⟨A2,hA2⟩:∃ n,n = w.heap.size:=⟨_,rfl⟩
  obtain ⟨W,hW⟩:∃ W,W = w.alloc BS0:=⟨_,rfl⟩
  have HT0:Hid (W.heap[A2]? = some BS0):=by show _ = _;rw [hW,hA2];exact heap_alloc_new _ _
  have HB0:Hid (Below w.heap.size w W):=by show Below _ _ _;rw [hW];exact (Below.refl _ _).alloc (Nat.le_refl _) _
  have HW:Hid (W = w.alloc BS0/\A2 = w.heap.size):=⟨hW,hA2⟩
  have HAw:Hid (w.heap.size<=A2):=by show _<=_;rw [hA2];exact Nat.le_refl _
  have HZ:Hid (s.size<=1048576):=hs
  have HSM:Hid (Sh.Sm (Sh.rdS s).L):=hm
  clear hs hm hW hA2
  go_enter Tryz.func6,Tryz.ntmps6
  go_wp2_with fail
  rw [← HW.out.1,← HW.out.2]
  refine (read_any s _ HZ.out).mono ?_
  rintro e w1 ⟨L,vi,vo,vz,rfl,u1,u2,u3,u4,u5,hb⟩
  obtain ⟨x,hx⟩:∃ x,Sh.rdS s = x:=⟨_,rfl⟩
  rw [hx] at u1 u4 u5 ⊢
  obtain ⟨n1,hn1⟩:∃ n,n = W.heap.size:=⟨_,rfl⟩
  rw [← hn1] at u2 u3 u4 u5
  have HU1:Hid (US n1 x L vi vo vz w1):=⟨u1,u2,u3,u4,u5⟩
  have HT1:Hid (w1.heap[A2]? = some BS0):=(hb.block _ (Array.getElem?_eq_some_iff.1 HT0.out).1).trans HT0.out
  have HB1:Hid (Below w.heap.size w w1):=HB0.out.trans (hb.mono HB0.out.size)
  have HN1:Hid (A2 < n1):=by show A2 < n1;rw [hn1];exact (Array.getElem?_eq_some_iff.1 HT0.out).1
  have HXS:Hid (x = Sh.rdS s):=hx.symm
  obtain ⟨⟨ia,im,ic,rfl⟩,⟨oa,om,oc,rfl⟩,za,zm,zc,rfl⟩:=HU1.out.slices
  obtain ⟨AX,hAX⟩:∃ n,n = w1.heap.size:=⟨_,rfl⟩
  obtain ⟨W2,hW2⟩:∃ V,V = w1.alloc (BSt (.slice ia im ic) (.slice oa om oc) (.slice za zm zc) x.dn):=⟨_,rfl⟩
  have HU:Hid (US n1 x L (.slice ia im ic) (.slice oa om oc) (.slice za zm zc) W2):=by show US _ _ _ _ _ _ _;rw [hW2];exact HU1.out.up ((Below.refl _ _).alloc (Nat.le_refl _) _)
  have HT:Hid (W2.heap[A2]? = some BS0):=by show _ = _;rw [hW2];exact (Below.heap_alloc _ _ _ (Array.getElem?_eq_some_iff.1 HT1.out).1).trans HT1.out
  have HX2:Hid (W2.heap[AX]? = some (BSt (.slice ia im ic) (.slice oa om oc) (.slice za zm zc) x.dn)):=by show _ = _;rw [hW2,hAX];exact heap_alloc_new _ _
  have HB:Hid (Below w.heap.size w W2):=by show Below _ _ _;rw [hW2];exact HB1.out.alloc HB1.out.size _
  clear u1 u2 u3 u4 u5 hb hx hn1 HT0 HB0 HU1 HT1 HB1
  go_wp2_with fail
  rw [← hW2,← hAX]
  clear hW2 hAX
  have HTB:=HU.out.tab (by rw [HXS.out];exact Sh.rdS_ok s)
  refine (shpack_any _ _ _ _ L x.O x.Z _ HTB (HU.out.okN (by rw [HXS.out];exact Sh.rdS_ok s)) HU.out.opens HU.out.seats (fun _=>by rw [HU.out.eq];exact (by rw [HXS.out];exact HSM.out))).mono ?_
  rintro e w3 ⟨rfl,hb⟩
  have HU3:Hid (US n1 x L (.slice ia im ic) (.slice oa om oc) (.slice za zm zc) w3):=HU.out.up hb
  have HT3:Hid (w3.heap[A2]? = some BS0):=(hb.block _ (Array.getElem?_eq_some_iff.1 HT.out).1).trans HT.out
  have HX3:Hid (w3.heap[AX]? = some (BSt (.slice ia im ic) (.slice oa om oc) (.slice za zm zc) x.dn)):=(hb.block _ (Array.getElem?_eq_some_iff.1 HX2.out).1).trans HX2.out
  have HB3:Hid (Below w.heap.size w w3):=HB.out.trans (hb.mono HB.out.size)
  rw [HU.out.eq]
  obtain ⟨q,hq⟩:∃ q,Sh.isS x s = q:=⟨_,rfl⟩
  clear hb HTB
  cases q with
  | true =>
    obtain ⟨h1,h2⟩:=(Sh.isS_iff x s).1 hq
    have HRES:Hid (Sh.unpS s = x/\Sh.unpE s = 0):=Sh.unp_yes (.inl HXS.out) hq
    rw [h1,h2]
    have t1:(s.toList == s.toList) = true:=beq_self_eq_true _
    have b0:=cell_at HX3.out 0
    have b1:=cell_at HX3.out 1
    have b2:=cell_at HX3.out 2
    have b3:=cell_at HX3.out 3
    simp at b0 b1 b2 b3
    clear h1 h2 hq
    have f0:=fr_at HT3.out
    have c0:=cell_at HT3.out 0
    have c1:=cell_at HT3.out 1
    have c2:=cell_at HT3.out 2
    have c3:=cell_at HT3.out 3
    simp at c0 c1 c2 c3
    have HF:Hid ((put4 w3 A2 (.slice ia im ic) (.slice oa om oc) (.slice za zm zc) (.int .i64 x.dn)).heap[A2]? = some (.cells #[.slice ia im ic,.slice oa om oc,.slice za zm zc,.int .i64 x.dn] 27)):=put4_at HT3.out
    have HBF:Hid (Below w.heap.size w (put4 w3 A2 (.slice ia im ic) (.slice oa om oc) (.slice za zm zc) (.int .i64 x.dn))):=HB3.out.grown (put4_gr _ _ _ _ _ _) HB3.out.size (fun j hj=>by cases hj;exact HAw.out)
    have HUF:Hid (US w.heap.size x L (.slice ia im ic) (.slice oa om oc) (.slice za zm zc) (put4 w3 A2 (.slice ia im ic) (.slice oa om oc) (.slice za zm zc) (.int .i64 x.dn))):=(HU3.out.kept (put4_gr _ _ _ _ _ _) (HN1.out)).low (Nat.le_of_lt (Nat.lt_of_le_of_lt HAw.out HN1.out))
    go_wp2
    have HE9:Hid (((((w3.setCell ⟨A2,0,none⟩ (.slice ia im ic)).setCell ⟨A2,1,none⟩ (.slice oa om oc)).setCell ⟨A2,2,none⟩ (.slice za zm zc)).setCell ⟨A2,3,none⟩ (.int .i64 x.dn)) = put4 w3 A2 (.slice ia im ic) (.slice oa om oc) (.slice za zm zc) (.int .i64 x.dn)):=rfl
    rw [HE9.out]
    generalize put4 w3 A2 (.slice ia im ic) (.slice oa om oc) (.slice za zm zc) (.int .i64 x.dn) = WF at HF HBF HUF HE9 ⊢
    clear HE9
    have d0:=cell_at HF.out 0
    have d1:=cell_at HF.out 1
    have d2:=cell_at HF.out 2
    have d3:=cell_at HF.out 3
    simp at d0 d1 d2 d3
    refine bodyPost_ret (v:=.tuple #[.agg #[.slice ia im ic,.slice oa om oc,.slice za zm zc,.int .i64 x.dn],.int .i64 0]) (by simp [results,Tryz.results6,go_sem,d0,d1,d2,d3]) rfl ⟨L,.slice ia im ic,.slice oa om oc,.slice za zm zc,?_,?_,HBF.out⟩
    · rw [HRES.out.1,HRES.out.2]
    · rw [HRES.out.1]
      exact HUF.out
  | false =>
    have HRES:Hid (Sh.unpS s = Sh.st0/\Sh.unpE s = 4):=Sh.unp_no (.inl HXS.out) hq
    have hq':¬ (Sh.pkE x.L x.O x.Z x.dn = 0/\Sh.pkO x.L x.O x.Z x.dn = s):=fun h=>by rw [(Sh.isS_iff x s).2 h] at hq;cases hq
    clear hq HX3
    generalize Sh.pkE x.L x.O x.Z x.dn = pe at *
    generalize Sh.pkO x.L x.O x.Z x.dn = po at *
    by_cases h0:pe = 0
    · have h3 : po ≠ s := fun h => hq' ⟨h0, h⟩
      have t1:=Ks.Rs.str_ne h3
      subst h0
      clear hq' h3
      have f0:=fr_at HT3.out
      have c0:=cell_at HT3.out 0
      have c1:=cell_at HT3.out 1
      have c2:=cell_at HT3.out 2
      have c3:=cell_at HT3.out 3
      simp at c0 c1 c2 c3
      have HF:Hid ((put4 w3 A2 (.slice none 0 0) (.slice none 0 0) (.slice none 0 0) (.int .i64 0)).heap[A2]? = some (.cells #[.slice none 0 0,.slice none 0 0,.slice none 0 0,.int .i64 0] 27)):=put4_at HT3.out
      have HBF:Hid (Below w.heap.size w (put4 w3 A2 (.slice none 0 0) (.slice none 0 0) (.slice none 0 0) (.int .i64 0))):=HB3.out.grown (put4_gr _ _ _ _ _ _) HB3.out.size (fun j hj=>by cases hj;exact HAw.out)
      go_wp2
      have HE9:Hid (((((w3.setCell ⟨A2,0,none⟩ (.slice none 0 0)).setCell ⟨A2,1,none⟩ (.slice none 0 0)).setCell ⟨A2,2,none⟩ (.slice none 0 0)).setCell ⟨A2,3,none⟩ (.int .i64 0)) = put4 w3 A2 (.slice none 0 0) (.slice none 0 0) (.slice none 0 0) (.int .i64 0)):=rfl
      rw [HE9.out]
      generalize put4 w3 A2 (.slice none 0 0) (.slice none 0 0) (.slice none 0 0) (.int .i64 0) = WF at HF HBF HE9 ⊢
      clear HE9
      have d0:=cell_at HF.out 0
      have d1:=cell_at HF.out 1
      have d2:=cell_at HF.out 2
      have d3:=cell_at HF.out 3
      simp at d0 d1 d2 d3
      refine bodyPost_ret (v:=.tuple #[.agg #[.slice none 0 0,.slice none 0 0,.slice none 0 0,.int .i64 0],.int .i64 4]) (by simp [results,Tryz.results6,go_sem,d0,d1,d2,d3]) rfl ⟨[],.slice none 0 0,.slice none 0 0,.slice none 0 0,?_,?_,HBF.out⟩
      · rw [HRES.out.1,HRES.out.2];rfl
      · rw [HRES.out.1]
        exact US.none _ _
    · have t2 : (pe != 0) = true := by simp [h0]
      clear hq' h0
      have f0:=fr_at HT3.out
      have c0:=cell_at HT3.out 0
      have c1:=cell_at HT3.out 1
      have c2:=cell_at HT3.out 2
      have c3:=cell_at HT3.out 3
      simp at c0 c1 c2 c3
      have HF:Hid ((put4 w3 A2 (.slice none 0 0) (.slice none 0 0) (.slice none 0 0) (.int .i64 0)).heap[A2]? = some (.cells #[.slice none 0 0,.slice none 0 0,.slice none 0 0,.int .i64 0] 27)):=put4_at HT3.out
      have HBF:Hid (Below w.heap.size w (put4 w3 A2 (.slice none 0 0) (.slice none 0 0) (.slice none 0 0) (.int .i64 0))):=HB3.out.grown (put4_gr _ _ _ _ _ _) HB3.out.size (fun j hj=>by cases hj;exact HAw.out)
      go_wp2
      have HE9:Hid (((((w3.setCell ⟨A2,0,none⟩ (.slice none 0 0)).setCell ⟨A2,1,none⟩ (.slice none 0 0)).setCell ⟨A2,2,none⟩ (.slice none 0 0)).setCell ⟨A2,3,none⟩ (.int .i64 0)) = put4 w3 A2 (.slice none 0 0) (.slice none 0 0) (.slice none 0 0) (.int .i64 0)):=rfl
      rw [HE9.out]
      generalize put4 w3 A2 (.slice none 0 0) (.slice none 0 0) (.slice none 0 0) (.int .i64 0) = WF at HF HBF HE9 ⊢
      clear HE9
      have d0:=cell_at HF.out 0
      have d1:=cell_at HF.out 1
      have d2:=cell_at HF.out 2
      have d3:=cell_at HF.out 3
      simp at d0 d1 d2 d3
      refine bodyPost_ret (v:=.tuple #[.agg #[.slice none 0 0,.slice none 0 0,.slice none 0 0,.int .i64 0],.int .i64 4]) (by simp [results,Tryz.results6,go_sem,d0,d1,d2,d3]) rfl ⟨[],.slice none 0 0,.slice none 0 0,.slice none 0 0,?_,?_,HBF.out⟩
      · rw [HRES.out.1,HRES.out.2];rfl
      · rw [HRES.out.1]
        exact US.none _ _
end Go.Proofs.YtggoccfddnpelaaGreat
namespace Go.Proofs.YtggoccfddnpelaaGreat.Es
open Go.ChangeShapes Go.WideShapes Go.ChangeAt Go.RowKit Go.Deep
set_option maxRecDepth 100000
theorem rright_any (v : Value) (l : List Sea) (w : World) (hv : AtW ES w v l) :
    Calls Tryz.prog 57 #[v] w fun e w'=>e = .returned (.bool (Se.ok l))/\Below w.heap.size w w':=by
  obtain ⟨ao,cap,rfl,hm,hx⟩:=hv.open
  clear hv
  unfold maxLen at hm
  obtain ⟨n,hn⟩:∃ n,l.length = n:=⟨_,rfl⟩
  rw [hn] at hm ⊢
  have HN:Hid (l.length = n):=hn
  have HX:Hid (Over w ao l):=hx
  obtain ⟨r,hr⟩:∃ r,Se.ok l = r:=⟨_,rfl⟩
  rw [hr]
  have HR:Hid ((decide (l.length<=6) && Se.right 0 l) = r):=hr
  clear hn hx hr
  go_enter Tryz.func57,Tryz.ntmps57
  go_wp2
  go_loopw [3,8] (fun t i wr=>∃ (k:Nat) (t':Int),k<=n/\i = .int .i64 k/\t = .int .i64 t'/\-1<=t'/\Hid (Se.right 0 l = Se.right (t' + 1) (l.drop k))/\Hid (Below w.heap.size w wr)) (fun _ i _=>n - (intOf i).toNat)
  case atStart=>exact ⟨0,-1,Nat.zero_le _,rfl,rfl,Int.le_refl _,rfl,Below.refl _ _⟩
  case round =>
    obtain ⟨k,t,hk,rfl,rfl,ht0,HP,HB⟩:=hrel
    have hsz:=HB.out.size
    by_cases hlt:k < n
    · obtain ⟨x, hxk⟩ : ∃ x, l[k]? = some x := ⟨_, List.getElem?_eq_getElem (by rw [HN.out]; exact hlt)⟩
      have HXK:Hid (l[k]? = some x):=hxk
      obtain ⟨b,off,rfl,-,hB,hc⟩:=HX.out k x hxk
      obtain ⟨c0,c1,c2⟩:=sea_cells HB.out hB hc
      clear hc hxk
      have hlt':(k:Int) < (n:Int):=by omega
      have HNO:Hid (¬ Se.good (t + 1) x->r = false):=fun hg=>by
        have:=HR.out
        rw [HP.out,Se.right_no HXK.out hg,Bool.and_false] at this
        exact this.symm
      have HYES:Hid (Se.good (t + 1) x->Se.right 0 l = Se.right (x.1 + 1) (l.drop (k + 1))):=fun hg=>HP.out.trans (Se.right_yes HXK.out hg)
      by_cases g0:x.1<=t
      · have H : Hid (r = false) := HNO.out fun h => by have := h.1.1; omega
        go_wp2
        go_ret
        rw [H.out]
        exact ⟨rfl,HB.out.alloc hsz _⟩
      by_cases g1:1099511627776 < x.1
      · have H : Hid (r = false) := HNO.out fun h => by have := h.1.2; omega
        go_wp2
        go_ret
        rw [H.out]
        exact ⟨rfl,HB.out.alloc hsz _⟩
      by_cases g2:x.2.1 < 1
      · have H : Hid (r = false) := HNO.out fun h => by have := h.2.1.1; omega
        go_wp2
        go_ret
        rw [H.out]
        exact ⟨rfl,HB.out.alloc hsz _⟩
      by_cases g3:1099511627776 < x.2.1
      · have H : Hid (r = false) := HNO.out fun h => by have := h.2.1.2; omega
        go_wp2
        go_ret
        rw [H.out]
        exact ⟨rfl,HB.out.alloc hsz _⟩
      by_cases g4:(8192:Int) < (x.2.2.size:Int)
      · have H : Hid (r = false) := HNO.out fun h => by have := h.2.2; omega
        go_wp2
        go_ret
        rw [H.out]
        exact ⟨rfl,HB.out.alloc hsz _⟩
      have HY:Hid (Se.right 0 l = Se.right (x.1 + 1) (l.drop (k + 1))):=HYES.out ⟨⟨by omega,by omega⟩,⟨by omega,by omega⟩,by omega⟩
      have hge:-1<=x.1:=by omega
      go_wp2
      go_roundw
      case rel=>exact ⟨k + 1,x.1,by omega,by go_num,rfl,hge,HY,HB.out.alloc hsz _⟩
      case measure=>simp [intOf];omega
    · obtain rfl : k = n := by omega
      have H:Hid (r = decide ((k:Int)<=6)):=by
        have:=HR.out
        rw [HP.out,Se.right_end HN.out.symm,Bool.and_true,HN.out] at this
        rw [← this]
        exact decide_eq_decide.2 (by omega)
      go_wp2
      go_ret
      rw [H.out]
      exact ⟨rfl,HB.out⟩
theorem eql_sea (w:World) (x:Sea):(binOp .neq 60 (VS x) (VS x)).run Tryz.prog w = .ok (.bool false) w:=by
  obtain ⟨x0,x1,x2⟩:=x
  go_simp
theorem seats_same {S T:Nat->Prop} (u v:Value) (l:List Sea) (w:World) (hu:At ES S w u l) (hv:At ES T w v l) :
    Calls Tryz.prog 20 #[u,v] w fun e w'=>e = .returned (.bool true)/\Below w.heap.size w w':=by
  obtain ⟨ao,cap,rfl,hm,hx⟩:=hu.wide.open
  obtain ⟨bo,cap',rfl,-,hy⟩:=hv.wide.open
  clear hu hv
  unfold maxLen at hm
  obtain ⟨n,hn⟩:∃ n,l.length = n:=⟨_,rfl⟩
  rw [hn] at hm ⊢
  have HN:Hid (l.length = n):=hn
  have HX:Hid (Over w ao l):=hx
  have HY:Hid (Over w bo l):=hy
  clear hn hx hy
  go_enter Tryz.func20,Tryz.ntmps20
  go_wp2
  go_loopw [8] (fun i wr=>∃ k:Nat,k<=n/\i = .int .i64 k/\Hid (Below w.heap.size w wr)) (fun i _=>n - (intOf i).toNat)
  case atStart=>exact ⟨0,Nat.zero_le _,rfl,Below.refl _ _⟩
  case round =>
    obtain ⟨k,hk,rfl,HB⟩:=hrel
    by_cases hlt:k < n
    · obtain ⟨x, hxk⟩ : ∃ x, l[k]? = some x := ⟨_, List.getElem?_eq_getElem (by rw [HN.out]; exact hlt)⟩
      obtain ⟨b,off,rfl,-,hB,hc⟩:=HX.out k x hxk
      obtain ⟨b',off',rfl,-,hB',hc'⟩:=HY.out k x hxk
      obtain ⟨c0,c1,c2⟩:=sea_cells HB.out hB hc
      obtain ⟨d0,d1,d2⟩:=sea_cells HB.out hB' hc'
      clear hc hc' hxk
      have hlt':(k:Int) < (n:Int):=by omega
      have hge:decide ((n:Int)<=(k:Int)) = false:=decide_eq_false (by omega)
      have heq:∀ w',(binOp .neq 60 (VS x) (VS x)).run Tryz.prog w' = .ok (.bool false) w':=fun w'=>eql_sea w' x
      have HB2:Hid (∀ q,Below w.heap.size w (wr.drewN q)):=fun _=>⟨HB.out.os,HB.out.tape,HB.out.output,HB.out.size,HB.out.block⟩
      go_wp2_with fail
      go_quiet (fail)
      go_wp2
      go_roundw
      case rel=>exact ⟨k + 1,by omega,by go_num,HB2.out _⟩
      case measure=>simp [intOf];omega
    · obtain rfl : k = n := by omega
      go_wp2
      go_ret
      exact ⟨rfl,HB.out⟩
end Go.Proofs.YtggoccfddnpelaaGreat.Es
namespace Go.Proofs.YtggoccfddnpelaaGreat
open Go.ChangeShapes Go.WideShapes Go.ChangeAt Go.RowKit Go.Deep It
set_option maxRecDepth 100000
set_option maxHeartbeats 1000000 in
theorem entries_same {S T:Nat->Prop} (u v:Value) (l:List (ByteArray × Int × Int × Int)) (w:World) (hu:At EE S w u l) (hv:At EE T w v l) :
    Calls Tryz.prog 40 #[u,v] w fun e w'=>e = .returned (.bool true)/\Below w.heap.size w w':=by
  obtain ⟨ao,cap,rfl,hm,hx⟩:=hu.open
  obtain ⟨bo,cap',rfl,_,hy⟩:=hv.open
  clear hu hv
  unfold maxLen at hm
  obtain ⟨n,hn⟩:∃ n,l.length = n:=⟨_,rfl⟩
  rw [hn] at hm ⊢
  have HN:Hid (l.length = n):=hn
  have HX:Hid (∀ i x,l[i]? = some x->∃ b off,ao = some ⟨b,off,none⟩/\S b/\b < w.heap.size/\∀ k u,(EE.cells x)[k]? = some u->w.cell? ⟨b,off + (i * 4 + k),none⟩ = some u):=hx
  have HY:Hid (∀ i x,l[i]? = some x->∃ b off,bo = some ⟨b,off,none⟩/\T b/\b < w.heap.size/\∀ k u,(EE.cells x)[k]? = some u->w.cell? ⟨b,off + (i * 4 + k),none⟩ = some u):=hy
  clear hn hx hy
  go_enter Tryz.func40,Tryz.ntmps40
  go_wp2
  go_loopw [8] (fun i wr=>∃ k:Nat,k<=n/\i = .int .i64 k/\Below w.heap.size w wr) (fun i _=>n - (intOf i).toNat)
  case atStart=>exact ⟨0,Nat.zero_le _,rfl,Below.refl _ _⟩
  case round =>
    obtain ⟨k,hk,rfl,hbl⟩:=hrel
    by_cases hlt:k < n
    · obtain ⟨y, hyk⟩ : ∃ y, l[k]? = some y := ⟨_, List.getElem?_eq_getElem (by rw [HN.out]; exact hlt)⟩
      obtain ⟨b,off,rfl,_,hB,hc⟩:=HX.out k y hyk
      obtain ⟨b',off',rfl,_,hB',hc'⟩:=HY.out k y hyk
      have c0:=hc 0 _ rfl
      have c1:=hc 1 _ rfl
      have c2:=hc 2 _ rfl
      have c3:=hc 3 _ rfl
      have d0:=hc' 0 _ rfl
      have d1:=hc' 1 _ rfl
      have d2:=hc' 2 _ rfl
      have d3:=hc' 3 _ rfl
      rw [← hbl.cell (p:=⟨b,off + (k * 4 + 0),none⟩) hB,Nat.add_zero] at c0
      rw [← hbl.cell (p:=⟨b,off + (k * 4 + 1),none⟩) hB,← Nat.add_assoc] at c1
      rw [← hbl.cell (p:=⟨b,off + (k * 4 + 2),none⟩) hB,← Nat.add_assoc] at c2
      rw [← hbl.cell (p:=⟨b,off + (k * 4 + 3),none⟩) hB,← Nat.add_assoc] at c3
      rw [← hbl.cell (p:=⟨b',off' + (k * 4 + 0),none⟩) hB',Nat.add_zero] at d0
      rw [← hbl.cell (p:=⟨b',off' + (k * 4 + 1),none⟩) hB',← Nat.add_assoc] at d1
      rw [← hbl.cell (p:=⟨b',off' + (k * 4 + 2),none⟩) hB',← Nat.add_assoc] at d2
      rw [← hbl.cell (p:=⟨b',off' + (k * 4 + 3),none⟩) hB',← Nat.add_assoc] at d3
      obtain ⟨y0,y1,y2,y3⟩:=y
      simp only at c0 c1 c2 c3 d0 d1 d2 d3
      have hlt':(k:Int) < (n:Int):=by omega
      have hge:decide ((n:Int)<=(k:Int)) = false:=by simp;omega
      have hge2:decide (n<=k) = false:=by simp;omega
      clear hyk hc hc'
      go_wp2
      go_quiet (fail)
      go_wp2
      go_roundw
      case rel=>exact ⟨k + 1,by omega,by go_num,Go.below_drewN hbl _⟩
      case measure=>simp [intOf];omega
    · obtain rfl : k = n := by omega
      go_wp2
      go_ret
      exact ⟨by simp,hbl⟩
theorem eight_grw {w:World} {b o:Nat} {x:Rw} (h:eight w b o x) (p:Grw w):eight p.out b o x:=h.below p.below (World.block_lt_of_cell? _ _ h.1)
set_option maxHeartbeats 4000000 in
set_option maxRecDepth 100000 in
theorem inodes_same {S T : Nat → Prop} (u v : Value) (L M : List Rw) (w : World) (hu : TabAt S w u L) (hv : TabAt T w v M) (hp : pl L = pl M) :
    Calls Tryz.prog 18 #[u,v] w fun e w'=>e = .returned (.bool true)/\Below w.heap.size w w':=by
  obtain ⟨ao,cap,rfl,hm,hx⟩:=hu.open
  obtain ⟨bo,cap',rfl,_,hy⟩:=hv.open
  clear hu hv
  unfold maxLen at hm
  have hlen:M.length = L.length:=by have:=congrArg List.length hp;simpa [pl] using this.symm
  rw [hlen]
  obtain ⟨n,hn⟩:∃ n,L.length = n:=⟨_,rfl⟩
  rw [hn] at hm hlen ⊢
  have HN:Hid (L.length = n/\M.length = n):=⟨hn,hlen⟩
  have HP:Hid (pl L = pl M):=hp
  have HX:Hid (∀ i x,L[i]? = some x->(∃ b off,ao = some ⟨b,off,none⟩/\b < w.heap.size/\eight w b (off + i * 8) x)/\Good S w x):=hx
  have HY:Hid (∀ i x,M[i]? = some x->(∃ b off,bo = some ⟨b,off,none⟩/\b < w.heap.size/\eight w b (off + i * 8) x)/\Good T w x):=hy
  clear hn hlen hx hy hp
  go_enter Tryz.func18,Tryz.ntmps18
  go_wp2
  go_loopw [8] (fun i wr=>∃ k:Nat,k<=n/\i = .int .i64 k/\Below w.heap.size w wr) (fun i _=>n - (intOf i).toNat)
  case atStart=>exact ⟨0,Nat.zero_le _,rfl,Below.refl _ _⟩
  case round =>
    obtain ⟨k,hk,rfl,hbl⟩:=hrel
    by_cases hlt:k < n
    · obtain ⟨x, hxk⟩ : ∃ y, L[k]? = some y := ⟨_, List.getElem?_eq_getElem (by rw [HN.out.1]; exact hlt)⟩
      obtain ⟨y,hyk⟩:∃ y,M[k]? = some y:=⟨_,List.getElem?_eq_getElem (by rw [HN.out.2];exact hlt)⟩
      have hxy:y.i = x.i:=by
        have:=congrArg (fun l=>l[k]?) HP.out
        simp only [pl,List.getElem?_map,hxk,hyk,Option.map_some,Option.some.injEq] at this
        exact this.symm
      obtain ⟨⟨b,off,rfl,hB,hc⟩,hgx⟩:=HX.out k x hxk
      obtain ⟨⟨b',off',rfl,hB',hc'⟩,hgy⟩:=HY.out k y hyk
      have HR:Hid (∀ W,wr.grownBy W none->Calls Tryz.prog 39 #[.slice x.rp x.rn x.rc,.slice y.rp y.rn y.rc] W fun e w'=>e = .returned (.bool true)/\Below W.heap.size W w'):=fun W hW=>by
        have h1:=((hgx.up hbl).up (below_none hW (Nat.le_refl _))).1.fields
        have h2:=((hgy.up hbl).up (below_none hW (Nat.le_refl _))).1.fields
        rw [hxy] at h2
        exact runs_same _ _ _ W h1 h2
      have HE:Hid (∀ W,wr.grownBy W none->Calls Tryz.prog 40 #[.slice x.ep x.en x.ec,.slice y.ep y.en y.ec] W fun e w'=>e = .returned (.bool true)/\Below W.heap.size W w'):=fun W hW=>by
        have h1:=((hgx.up hbl).up (below_none hW (Nat.le_refl _))).2.1
        have h2:=((hgy.up hbl).up (below_none hW (Nat.le_refl _))).2.1
        rw [hxy] at h2
        exact entries_same _ _ _ W h1 h2
      have hcx:=eight_grw (hc.below hbl hB)
      have hcy:=eight_grw (hc'.below hbl hB')
      unfold eight at hcx hcy
      rw [hxy] at hcy
      have HB:Hid (Below w.heap.size w wr):=hbl
      obtain ⟨⟨g,kk,l,s,t,rs,es,nx⟩,rp,rn,rc,ep,en,ec⟩:=x
      obtain ⟨yi,yrp,yrn,yrc,yep,yen,yec⟩:=y
      simp only at hcx hcy HR HE
      have a0:=fun p=>(hcx p).1
      have a1:=fun p=>(hcx p).2.1
      have a2:=fun p=>(hcx p).2.2.1
      have a3:=fun p=>(hcx p).2.2.2.1
      have a4:=fun p=>(hcx p).2.2.2.2.1
      have a5:=fun p=>(hcx p).2.2.2.2.2.1
      have a6:=fun p=>(hcx p).2.2.2.2.2.2.1
      have a7:=fun p=>(hcx p).2.2.2.2.2.2.2
      have b0:=fun p=>(hcy p).1
      have b1:=fun p=>(hcy p).2.1
      have b2:=fun p=>(hcy p).2.2.1
      have b3:=fun p=>(hcy p).2.2.2.1
      have b4:=fun p=>(hcy p).2.2.2.2.1
      have b5:=fun p=>(hcy p).2.2.2.2.2.1
      have b6:=fun p=>(hcy p).2.2.2.2.2.2.1
      have b7:=fun p=>(hcy p).2.2.2.2.2.2.2
      have hlt':(k:Int) < (n:Int):=by omega
      have hge:decide ((n:Int)<=(k:Int)) = false:=by simp;omega
      have hge2:decide (n<=k) = false:=by simp;omega
      have hne9:Nonempty (Grw wr):=grw_some wr
      clear hxk hyk hxy hc hc' hgx hgy hcx hcy hbl hB hB'
      go_wp2_with fail
      simp only [List.cons_append,List.nil_append,List.append_eq]
      refine wp_region_grw (by kernel_rfl) (by kernel_rfl) ?_
      repeat (go_big_quiet_step (first | (go_at_call 39;refine calls_grw (Grw.grown _) (HR.out _ (Grw.grown _))) | (go_at_call 40;refine calls_grw (Grw.grown _) (HE.out _ (Grw.grown _)))))
      refine wpQuiet_nil ?_
      rintro wq ⟨p,rfl⟩
      have HBq:Hid (Below w.heap.size w p.out):=HB.out.trans (p.below.mono HB.out.size)
      go_wp2
      go_roundw
      case rel=>exact ⟨k + 1,by omega,by go_num,HBq.out⟩
      case measure=>simp [intOf];omega
    · obtain rfl : k = n := by omega
      go_wp2
      go_ret
      exact ⟨by simp,hbl⟩
end Go.Proofs.YtggoccfddnpelaaGreat
namespace Go.Proofs.YtggoccfddnpelaaGreat.Os
open Go.ChangeShapes Go.WideShapes Go.ChangeAt Go.RowKit Go.Deep
set_option maxRecDepth 100000
def EI:Enc Int:=⟨1,fun x=>[.int .i64 x],fun _=>rfl,fun x u hu=>by
  simp at hu
  subst hu
  rfl⟩
namespace Op
end Op
theorem rto_any (no gen : Int) (w : World) : Calls Tryz.prog 111 #[VH no gen] w fun e w' => e = .returned (.bool (decide (Ho no gen))) ∧ w' = w.alloc (BH no gen) := by
  by_cases h1:0<=no
  · by_cases h2 : no < 24
    · by_cases h3 : 1 ≤ gen
      · by_cases h4 : gen ≤ 1099511627776
        · rw [decide_eq_true (show Ho no gen from ⟨⟨h1, by omega⟩, h3, h4⟩)]
          go_enter Tryz.func111,Tryz.ntmps111
          go_wp2
          go_ret
          exact ⟨rfl,rfl⟩
        · rw [decide_eq_false (show ¬ Ho no gen from fun h => h4 h.2.2)]
          go_enter Tryz.func111,Tryz.ntmps111
          go_wp2
          go_ret
          exact ⟨rfl,rfl⟩
      · rw [decide_eq_false (show ¬ Ho no gen from fun h => h3 h.2.1)]
        go_enter Tryz.func111,Tryz.ntmps111
        go_wp2
        go_ret
        exact ⟨rfl,rfl⟩
    · rw [decide_eq_false (show ¬ Ho no gen from fun h => h2 (by have := h.1.2; omega))]
      go_enter Tryz.func111,Tryz.ntmps111
      go_wp2
      go_ret
      exact ⟨rfl,rfl⟩
  · rw [decide_eq_false (show ¬ Ho no gen from fun h => h1 h.1.1)]
    go_enter Tryz.func111,Tryz.ntmps111
    go_wp2
    go_ret
    exact ⟨rfl,rfl⟩
set_option maxHeartbeats 2000000 in
theorem rright_any (v : Value) (l : List Opn) (w : World) (hv : AtW EO w v l) :
    Calls Tryz.prog 76 #[v] w fun e w'=>e = .returned (.bool (Op.right 0 l))/\Below w.heap.size w w':=by
  obtain ⟨ao,cap,rfl,hm,hx⟩:=hv.open
  clear hv
  unfold maxLen at hm
  obtain ⟨n,hn⟩:∃ n,l.length = n:=⟨_,rfl⟩
  rw [hn] at hm ⊢
  have HN:Hid (l.length = n):=hn
  have HX:Hid (Over w ao l):=hx
  obtain ⟨r,hr⟩:∃ r,Op.right 0 l = r:=⟨_,rfl⟩
  rw [hr]
  have HR:Hid (Op.right 0 l = r):=hr
  clear hn hx hr
  go_enter Tryz.func76,Tryz.ntmps76
  go_wp2
  go_loopw [3,8] (fun t i wr=>∃ (k:Nat) (t':Int),k<=n/\i = .int .i64 k/\t = .int .i64 t'/\-1<=t'/\Hid (Op.right 0 l = Op.right (t' + 1) (l.drop k))/\Hid (Below w.heap.size w wr)) (fun _ i _=>n - (intOf i).toNat)
  case atStart=>exact ⟨0,-1,Nat.zero_le _,rfl,rfl,Int.le_refl _,rfl,Below.refl _ _⟩
  case round =>
    obtain ⟨k,t,hk,rfl,rfl,ht0,HP,HB⟩:=hrel
    have hsz:=HB.out.size
    by_cases hlt:k < n
    · obtain ⟨x, hxk⟩ : ∃ x, l[k]? = some x := ⟨_, List.getElem?_eq_getElem (by rw [HN.out]; exact hlt)⟩
      have HXK:Hid (l[k]? = some x):=hxk
      obtain ⟨b,off,rfl,-,hB,hc⟩:=HX.out k x hxk
      obtain ⟨c0,c1,c2,c3⟩:=opn_cells HB.out hB hc
      clear hc hxk
      have hlt':(k:Int) < (n:Int):=by omega
      have HNO:Hid (¬ Op.good (t + 1) x->r = false):=fun hg=>by
        have:=HR.out
        rw [HP.out,Op.right_no HXK.out hg] at this
        exact this.symm
      have HYES:Hid (Op.good (t + 1) x->Op.right 0 l = Op.right (x.1 + 1) (l.drop (k + 1))):=fun hg=>HP.out.trans (Op.right_yes HXK.out hg)
      by_cases g0:x.1<=t
      · have H : Hid (r = false) := HNO.out fun h => by have := h.1.1; omega
        go_wp2
        go_ret
        rw [H.out]
        exact ⟨rfl,HB.out.alloc hsz _⟩
      by_cases g1:16<=x.1
      · have H : Hid (r = false) := HNO.out fun h => by have := h.1.2; omega
        go_wp2
        go_ret
        rw [H.out]
        exact ⟨rfl,HB.out.alloc hsz _⟩
      by_cases g2:x.2.1 < 0
      · have H : Hid (r = false) := HNO.out fun h => by have := h.2.1.1; omega
        go_wp2
        go_ret
        rw [H.out]
        exact ⟨rfl,HB.out.alloc hsz _⟩
      by_cases g3:1099511627776 < x.2.1
      · have H : Hid (r = false) := HNO.out fun h => by have := h.2.1.2; omega
        go_wp2
        go_ret
        rw [H.out]
        exact ⟨rfl,HB.out.alloc hsz _⟩
      by_cases g4:Ho x.2.2.1 x.2.2.2
      · have HY : Hid (Op.right 0 l = Op.right (x.1 + 1) (l.drop (k + 1))) := HYES.out ⟨⟨by omega, by omega⟩, ⟨by omega, by omega⟩, g4⟩
        have G4:Hid (decide (Ho x.2.2.1 x.2.2.2) = true):=decide_eq_true g4
        have hge:-1<=x.1:=by omega
        clear g4
        go_wp2_with fail
        refine (rto_any _ _ _).mono ?_
        rintro e w' ⟨rfl,rfl⟩
        rw [G4.out]
        have HB2:Hid (Below w.heap.size w ((wr.alloc (BO x)).alloc (BH x.2.2.1 x.2.2.2))):=(HB.out.alloc hsz _).alloc (by simp;omega) _
        go_wp2
        go_roundw
        case rel=>exact ⟨k + 1,x.1,by omega,by go_num,rfl,hge,HY,HB2⟩
        case measure=>simp [intOf];omega
      · have H : Hid (r = false) := HNO.out fun h => g4 h.2.2
        have G4:Hid (decide (Ho x.2.2.1 x.2.2.2) = false):=decide_eq_false g4
        clear g4
        go_wp2_with fail
        refine (rto_any _ _ _).mono ?_
        rintro e w' ⟨rfl,rfl⟩
        rw [G4.out]
        have HB2:Hid (Below w.heap.size w ((wr.alloc (BO x)).alloc (BH x.2.2.1 x.2.2.2))):=(HB.out.alloc hsz _).alloc (by simp;omega) _
        go_wp2
        go_ret
        rw [H.out]
        exact ⟨rfl,HB2.out⟩
    · obtain rfl : k = n := by omega
      have H:Hid (r = true):=by
        have:=HR.out
        rw [HP.out,Op.right_end HN.out.symm] at this
        exact this.symm
      go_wp2
      go_ret
      rw [H.out]
      exact ⟨rfl,HB.out⟩
set_option maxHeartbeats 1000000 in
theorem opens_same {S T:Nat->Prop} (u v:Value) (l:List Opn) (w:World) (hu:At EO S w u l) (hv:At EO T w v l) :
    Calls Tryz.prog 19 #[u,v] w fun e w'=>e = .returned (.bool true)/\Below w.heap.size w w':=by
  obtain ⟨ao,cap,rfl,hm,hx⟩:=hu.open
  obtain ⟨bo,cap',rfl,_,hy⟩:=hv.open
  clear hu hv
  unfold maxLen at hm
  obtain ⟨n,hn⟩:∃ n,l.length = n:=⟨_,rfl⟩
  rw [hn] at hm ⊢
  have HN:Hid (l.length = n):=hn
  have HX:Hid (∀ i x,l[i]? = some x->∃ b off,ao = some ⟨b,off,none⟩/\S b/\b < w.heap.size/\∀ k u,(EO.cells x)[k]? = some u->w.cell? ⟨b,off + (i * 4 + k),none⟩ = some u):=hx
  have HY:Hid (∀ i x,l[i]? = some x->∃ b off,bo = some ⟨b,off,none⟩/\T b/\b < w.heap.size/\∀ k u,(EO.cells x)[k]? = some u->w.cell? ⟨b,off + (i * 4 + k),none⟩ = some u):=hy
  clear hn hx hy
  go_enter Tryz.func19,Tryz.ntmps19
  go_wp2
  go_loopw [8] (fun i wr=>∃ k:Nat,k<=n/\i = .int .i64 k/\Below w.heap.size w wr) (fun i _=>n - (intOf i).toNat)
  case atStart=>exact ⟨0,Nat.zero_le _,rfl,Below.refl _ _⟩
  case round =>
    obtain ⟨k,hk,rfl,hbl⟩:=hrel
    by_cases hlt:k < n
    · obtain ⟨y, hyk⟩ : ∃ y, l[k]? = some y := ⟨_, List.getElem?_eq_getElem (by rw [HN.out]; exact hlt)⟩
      obtain ⟨b,off,rfl,_,hB,hc⟩:=HX.out k y hyk
      obtain ⟨b',off',rfl,_,hB',hc'⟩:=HY.out k y hyk
      have c0:=hc 0 _ rfl
      have c1:=hc 1 _ rfl
      have c2:=hc 2 _ rfl
      have c3:=hc 3 _ rfl
      have d0:=hc' 0 _ rfl
      have d1:=hc' 1 _ rfl
      have d2:=hc' 2 _ rfl
      have d3:=hc' 3 _ rfl
      rw [← hbl.cell (p:=⟨b,off + (k * 4 + 0),none⟩) hB,Nat.add_zero] at c0
      rw [← hbl.cell (p:=⟨b,off + (k * 4 + 1),none⟩) hB,← Nat.add_assoc] at c1
      rw [← hbl.cell (p:=⟨b,off + (k * 4 + 2),none⟩) hB,← Nat.add_assoc] at c2
      rw [← hbl.cell (p:=⟨b,off + (k * 4 + 3),none⟩) hB,← Nat.add_assoc] at c3
      rw [← hbl.cell (p:=⟨b',off' + (k * 4 + 0),none⟩) hB',Nat.add_zero] at d0
      rw [← hbl.cell (p:=⟨b',off' + (k * 4 + 1),none⟩) hB',← Nat.add_assoc] at d1
      rw [← hbl.cell (p:=⟨b',off' + (k * 4 + 2),none⟩) hB',← Nat.add_assoc] at d2
      rw [← hbl.cell (p:=⟨b',off' + (k * 4 + 3),none⟩) hB',← Nat.add_assoc] at d3
      obtain ⟨y0,y1,y2,y3⟩:=y
      simp only at c0 c1 c2 c3 d0 d1 d2 d3
      have hlt':(k:Int) < (n:Int):=by omega
      have hge:decide ((n:Int)<=(k:Int)) = false:=by simp;omega
      have hge2:decide (n<=k) = false:=by simp;omega
      clear hyk hc hc'
      go_wp2
      go_quiet (fail)
      go_wp2
      go_roundw
      case rel=>exact ⟨k + 1,by omega,by go_num,Go.below_drewN hbl _⟩
      case measure=>simp [intOf];omega
    · obtain rfl : k = n := by omega
      go_wp2
      go_ret
      exact ⟨by simp,hbl⟩
end Go.Proofs.YtggoccfddnpelaaGreat.Os
namespace Go.Proofs.YtggoccfddnpelaaGreat
open Go.ChangeShapes Go.WideShapes Go.ChangeAt Go.RowKit Go.Deep It
set_option maxRecDepth 100000
theorem two_st (w:World) (x y:Obj):Below w.heap.size w ((w.alloc x).alloc y):=((Below.refl _ _).alloc (Nat.le_refl _) _).alloc (by simp) _
set_option maxHeartbeats 4000000 in
theorem state_same {S T S2 T2 S3 T3:Nat->Prop} (vi vo vs ui uo us:Value) (dn:Int) (L M:List Rw) (O:List Os.Opn) (Z:List Es.Sea) (w:World) (h1:TabAt S w vi L) (h2:TabAt T w ui M) (hp:pl L = pl M) (h3:At Os.EO S2 w vo O) (h4:At Os.EO T2 w uo O) (h5:At Es.ES S3 w vs Z) (h6:At Es.ES T3 w us Z) :
    Calls Tryz.prog 8 #[VSt vi vo vs dn,VSt ui uo us dn] w fun e w'=>e = .returned (.bool true)/\Below w.heap.size w w':=by
  have H1:Hid (TabAt S w vi L):=h1
  have H2:Hid (TabAt T w ui M):=h2
  have H3:Hid (At Os.EO S2 w vo O):=h3
  have H4:Hid (At Os.EO T2 w uo O):=h4
  have H5:Hid (At Es.ES S3 w vs Z):=h5
  have H6:Hid (At Es.ES T3 w us Z):=h6
  have HP:Hid (pl L = pl M):=hp
  obtain ⟨a1,b1,e1,-,-⟩:=h1.open
  obtain ⟨a2,b2,e2,-,-⟩:=h2.open
  obtain ⟨a3,b3,e3,-,-⟩:=h3.open
  obtain ⟨a4,b4,e4,-,-⟩:=h4.open
  obtain ⟨a5,b5,e5,-,-⟩:=h5.open
  obtain ⟨a6,b6,e6,-,-⟩:=h6.open
  obtain ⟨n1,hn1⟩:∃ n,L.length = n:=⟨_,rfl⟩
  obtain ⟨n2,hn2⟩:∃ n,M.length = n:=⟨_,rfl⟩
  obtain ⟨n3,hn3⟩:∃ n,O.length = n:=⟨_,rfl⟩
  obtain ⟨n4,hn4⟩:∃ n,Z.length = n:=⟨_,rfl⟩
  rw [hn1] at e1
  rw [hn2] at e2
  rw [hn3] at e3 e4
  rw [hn4] at e5 e6
  subst e1 e2 e3 e4 e5 e6
  have t0:(dn == dn) = true:=beq_self_eq_true _
  have HW:Hid (∀ x y:Obj,Below w.heap.size w ((w.alloc x).alloc y)):=two_st w
  obtain ⟨W,hW⟩:∃ W,W = (w.alloc (BSt (.slice a1 n1 b1) (.slice a3 n3 b3) (.slice a5 n4 b5) dn)).alloc (BSt (.slice a2 n2 b2) (.slice a4 n3 b4) (.slice a6 n4 b6) dn):=⟨_,rfl⟩
  have HB:Hid (Below w.heap.size w W):=by show Below _ _ _;rw [hW];exact HW.out _ _
  have HX:Hid (W.heap[w.heap.size]? = some (BSt (.slice a1 n1 b1) (.slice a3 n3 b3) (.slice a5 n4 b5) dn)):=by show _ = _;rw [hW];exact (Below.heap_alloc _ _ _ (by simp)).trans (heap_alloc_new _ _)
  have HY:Hid (W.heap[w.heap.size + 1]? = some (BSt (.slice a2 n2 b2) (.slice a4 n3 b4) (.slice a6 n4 b6) dn)):=by show _ = _;rw [hW];have h:=heap_alloc_new (w.alloc (BSt (.slice a1 n1 b1) (.slice a3 n3 b3) (.slice a5 n4 b5) dn)) (BSt (.slice a2 n2 b2) (.slice a4 n3 b4) (.slice a6 n4 b6) dn);simpa using h
  clear h1 h2 h3 h4 h5 h6 hn1 hn2 hn3 hn4 hp
  go_enter Tryz.func8,Tryz.ntmps8
  go_wp2_with fail
  rw [← hW]
  clear hW
  refine (inodes_same _ _ L M _ (H1.out.up HB.out) (H2.out.up HB.out) HP.out).mono ?_
  rintro e' w1 ⟨rfl,hb1⟩
  have HB1:Hid (Below w.heap.size w w1):=HB.out.trans (hb1.mono HB.out.size)
  have HX1:Hid (w1.heap[w.heap.size]? = some (BSt (.slice a1 n1 b1) (.slice a3 n3 b3) (.slice a5 n4 b5) dn)):=(hb1.block _ (Array.getElem?_eq_some_iff.1 HX.out).1).trans HX.out
  have HY1:Hid (w1.heap[w.heap.size + 1]? = some (BSt (.slice a2 n2 b2) (.slice a4 n3 b4) (.slice a6 n4 b6) dn)):=(hb1.block _ (Array.getElem?_eq_some_iff.1 HY.out).1).trans HY.out
  obtain ⟨x0,x1,x2,x3⟩:=st_of HX1.out
  obtain ⟨y0,y1,y2,y3⟩:=st_of HY1.out
  clear hb1
  go_wp2_with fail
  refine (Os.opens_same _ _ O _ (H3.out.up HB1.out) (H4.out.up HB1.out)).mono ?_
  rintro e' w2 ⟨rfl,hb2⟩
  have HB2:Hid (Below w.heap.size w w2):=HB1.out.trans (hb2.mono HB1.out.size)
  have HX2:Hid (w2.heap[w.heap.size]? = some (BSt (.slice a1 n1 b1) (.slice a3 n3 b3) (.slice a5 n4 b5) dn)):=(hb2.block _ (Array.getElem?_eq_some_iff.1 HX1.out).1).trans HX1.out
  have HY2:Hid (w2.heap[w.heap.size + 1]? = some (BSt (.slice a2 n2 b2) (.slice a4 n3 b4) (.slice a6 n4 b6) dn)):=(hb2.block _ (Array.getElem?_eq_some_iff.1 HY1.out).1).trans HY1.out
  clear hb2 x0 x1 x2 x3 y0 y1 y2 y3
  obtain ⟨x0,x1,x2,x3⟩:=st_of HX2.out
  obtain ⟨y0,y1,y2,y3⟩:=st_of HY2.out
  go_wp2_with fail
  refine (Es.seats_same _ _ Z _ (H5.out.up HB2.out) (H6.out.up HB2.out)).mono ?_
  rintro e' w3 ⟨rfl,hb3⟩
  go_wp2
  go_ret
  exact ⟨rfl,HB2.out.trans (hb3.mono HB2.out.size)⟩
set_option maxHeartbeats 2000000 in
theorem nnew_any (w:World):Calls Tryz.prog 26 #[] w fun e w'=>∃ ap n cp L,e = .returned (VSt (.slice ap n cp) (.slice none 0 0) (.slice none 0 0) 0)/\TabAt (fun b=>w.heap.size<=b) w' (.slice ap n cp) L/\pl L = It.new/\Below w.heap.size w w':=by
  obtain ⟨W,hW⟩:∃ W,W = w.alloc BS0:=⟨_,rfl⟩
  have HB0:Hid (Below w.heap.size w W):=by show Below w.heap.size w W;rw [hW];exact (Below.refl _ w).alloc (Nat.le_refl _) _
  have HA0:Hid (W.heap[w.heap.size]? = some BS0):=by show W.heap[w.heap.size]? = _;rw [hW];exact heap_alloc_new _ _
  have hwW:w.heap.size < W.heap.size:=(Array.getElem?_eq_some_iff.1 HA0.out).1
  go_enter Tryz.func26,Tryz.ntmps26
  go_wp2_with fail
  rw [← hW]
  clear hW
  refine (new_any W).mono ?_
  rintro e w1 ⟨u,L,rfl,ht,hp,hb⟩
  obtain ⟨ap,cp,hu,-,-⟩:=ht.open
  obtain ⟨n,hn⟩:∃ n,L.length = n:=⟨_,rfl⟩
  rw [hn] at hu
  subst hu
  have HT1:Hid (TabAt (fun b=>w.heap.size < b) w1 (.slice ap n cp) L):=ht.imp (fun b hb _=>by omega)
  have HP1:Hid (pl L = It.new):=hp
  have HB1:Hid (Below w.heap.size w w1):=HB0.out.trans (hb.mono HB0.out.size)
  have HA1:Hid (w1.heap[w.heap.size]? = some BS0):=(hb.block _ hwW).trans HA0.out
  obtain ⟨f0,f1,f2,f3⟩:=st_of HA1.out
  have ff:=fr_at HA1.out
  clear ht hp hb hn
  go_wp2
  (try simp only [Exit.inBlock,Exit.then])
  refine bodyPost_ret (v:=VSt (.slice ap n cp) (.slice none 0 0) (.slice none 0 0) 0) ?_ rfl ⟨ap,n,cp,L,rfl,?_,HP1.out,?_⟩
  · rw [results_cell1 rfl]
    go_simp
  · exact (setCells_tab (A:=w.heap.size) (S:=fun b=>w.heap.size < b) (by omega) (cS (.slice ap n cp) (.slice none 0 0) (.slice none 0 0) 0) 0 w1 HT1.out).imp (fun b hb _=>by omega)
  · exact setCells_below (Nat.le_refl _) (cS (.slice ap n cp) (.slice none 0 0) (.slice none 0 0) 0) 0 w1 HB1.out
set_option maxHeartbeats 2000000 in
theorem mnew_any (w:World):Calls Tryz.prog 11 #[] w fun e w'=>∃ ap n cp L,e = .returned (VSt (.slice ap n cp) (.slice none 0 0) (.slice none 0 0) 0)/\TabAt (fun b=>w.heap.size<=b) w' (.slice ap n cp) L/\pl L = It.new/\Below w.heap.size w w':=by
  obtain ⟨W,hW⟩:∃ W,W = w.alloc BS0:=⟨_,rfl⟩
  have HB0:Hid (Below w.heap.size w W):=by show Below w.heap.size w W;rw [hW];exact (Below.refl _ w).alloc (Nat.le_refl _) _
  have HA0:Hid (W.heap[w.heap.size]? = some BS0):=by show W.heap[w.heap.size]? = _;rw [hW];exact heap_alloc_new _ _
  have hwW:w.heap.size < W.heap.size:=(Array.getElem?_eq_some_iff.1 HA0.out).1
  go_enter Tryz.func11,Tryz.ntmps11
  go_wp2_with fail
  rw [← hW]
  clear hW
  refine (nnew_any W).mono ?_
  rintro e w1 ⟨ap,n,cp,L,rfl,ht,hp,hb⟩
  have HT1:Hid (TabAt (fun b=>w.heap.size < b) w1 (.slice ap n cp) L):=ht.imp (fun b hb _=>by omega)
  have HP1:Hid (pl L = It.new):=hp
  have HB1:Hid (Below w.heap.size w w1):=HB0.out.trans (hb.mono HB0.out.size)
  have HA1:Hid (w1.heap[w.heap.size]? = some BS0):=(hb.block _ hwW).trans HA0.out
  obtain ⟨f0,f1,f2,f3⟩:=st_of HA1.out
  have ff:=fr_at HA1.out
  clear ht hp hb
  go_wp2
  (try simp only [Exit.inBlock,Exit.then])
  refine bodyPost_ret (v:=VSt (.slice ap n cp) (.slice none 0 0) (.slice none 0 0) 0) ?_ rfl ⟨ap,n,cp,L,rfl,?_,HP1.out,?_⟩
  · rw [results_cell1 rfl]
    go_simp
  · exact (setCells_tab (A:=w.heap.size) (S:=fun b=>w.heap.size < b) (by omega) (cS (.slice ap n cp) (.slice none 0 0) (.slice none 0 0) 0) 0 w1 HT1.out).imp (fun b hb _=>by omega)
  · exact setCells_below (Nat.le_refl _) (cS (.slice ap n cp) (.slice none 0 0) (.slice none 0 0) 0) 0 w1 HB1.out
end Go.Proofs.YtggoccfddnpelaaGreat
namespace Go.Proofs.YtggoccfddnpelaaGreat
open It Go.RowKit
set_option maxRecDepth 100000
namespace Sh
theorem new_dir {nx:Int} (h:0<=nx/\nx<=1099511627776):Fo.Right [] nx:=⟨h,fun i hi=>by simp at hi,by simp [Fo.apart]⟩
theorem new_folds:Sp.folds new:=fun x hx=>by
  simp [new,fresh] at hx
  subst hx
  exact fun _=>⟨new_dir (by decide),rfl⟩
theorem new_sp:Sp.isSp new = true:=Sp.isSp_iff.2 ⟨by decide,new_folds,by decide,by decide⟩
theorem new_right:Nf.right new [] 0 = true:=by
  have h2:(Os.Op.right 0 [] && (Nf.filesOk new [] && (decide (allBytes new<=8192) && Nf.doneOk new 0))) = true:=by decide +kernel
  unfold Nf.right
  rw [new_sp,h2]
  rfl
theorem new_whole:whole new [] [] 0 = true:=by
  unfold whole
  rw [new_right]
  rfl
def newB:ByteArray:=⟨#[1,0,6,0,0,0,0,0,0,2,0,27,1,0,24,0,0,0,0,0,1,2,1,0,0,0,0,0,0,0,0,0,0,0,0,0,0,0,0]⟩
theorem new_bytes:Ks.Pl.packOut (fS new [] [] 0) = newB:=by decide +kernel
theorem new_err:Ks.Pl.packErr 1 (fS new [] [] 0) = 0:=by decide +kernel
theorem new_pk:pkO new [] [] 0 = newB/\pkE new [] [] 0 = 0:=by
  unfold pkO pkE
  rw [if_pos new_whole,if_pos new_whole,new_bytes,new_err]
  exact ⟨rfl,rfl⟩
theorem back_is {L:List Ino} {O:List Os.Opn} {Z:List Es.Sea} {dn:Int} (h:pkE L O Z dn = 0):unpS (pkO L O Z dn) = ⟨L,O,Z,dn⟩/\unpE (pkO L O Z dn) = 0/\(rdS (pkO L O Z dn)).L = L:=by
  obtain ⟨-,h1,-⟩:=pk_back h
  have hi:isS ⟨L,O,Z,dn⟩ (pkO L O Z dn) = true:=(isS_iff _ _).2 ⟨h,rfl⟩
  obtain ⟨h2,h3⟩:=unp_yes (.inl h1.symm) hi
  exact ⟨h2,h3,by rw [h1]⟩
end Sh
end Go.Proofs.YtggoccfddnpelaaGreat
