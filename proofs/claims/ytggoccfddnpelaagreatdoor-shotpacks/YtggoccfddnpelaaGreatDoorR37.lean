/- PSum, ZDg, ZRs, ZOk, as one. -/
import Derived.Test.YtggoccfddnpelaaGreatDoorR30
import Derived.Test.YtggoccfddnpelaaGreatDoorR36
namespace Go.Proofs.YtggoccfddnpelaaGreatDoor.Po
open Go.ChangeShapes Go.WideShapes Go.ChangeAt Go.RowKit
set_option maxRecDepth 100000
theorem bits_step_odd (x:Nat) (hx:x < 4294967296):bits .xor .i64 ((x:Int) / 2) 3988292384 = ((x / 2 ^^^ 3988292384:Nat):Int):=by
  have:=Pl.i64_xor (x / 2) 3988292384 (by omega) (by decide)
  simpa using this
theorem bitN_succ (k r:Nat):Pl.bitN (k + 1) r = Pl.bit (Pl.bitN k r):=Pl.bitN_add k 1 r
set_option maxHeartbeats 400000 in
theorem bits_any (r c : Nat) (w : World) (hr : r < 4294967296) (hc : c < 256) :
    Calls Tryz.prog 43 #[.int .i64 r,.int .i64 c] w fun e w'=>e = .returned (.int .i64 (Pl.byte r c))/\w' = w:=by
  have hx0:=Pl.i64_xor r c hr (by omega)
  have HB:Hid (∀ k,Pl.bitN k (r ^^^ c) < 4294967296):=fun k=>Pl.bitN_lt k (Pl.xor_lt hr (by omega))
  have HP:Hid (Pl.byte r c = Pl.bitN 8 (r ^^^ c)):=rfl
  obtain ⟨y,hy⟩:∃ y,r ^^^ c = y:=⟨_,rfl⟩
  rw [hy] at hx0 HB HP
  clear hy
  go_enter Tryz.func43,Tryz.ntmps43
  go_wp2
  go_loop [0,5] (fun t i=>∃ k:Nat,k<=8/\i = .int .i64 k/\t = .int .i64 (Pl.bitN k y)) (fun _ i=>8 - (intOf i).toNat)
  case atStart=>exact ⟨0,by omega,rfl,rfl⟩
  case round =>
    obtain ⟨k,hk,rfl,rfl⟩:=hrel
    have hx:=HB.out k
    have HS:=bitN_succ k y
    by_cases hlt:k < 8
    · generalize hq : Pl.bitN k y = x at *
      have HX:Hid (Pl.bitN (k + 1) y = Pl.bit x):=HS
      clear HS hq hx0
      have ho:=bits_step_odd x hx
      by_cases hp:x % 2 = 1
      · have HE : Hid (Pl.bit x = x / 2 ^^^ 3988292384) := by show Pl.bit x = _; unfold Pl.bit; rw [if_pos hp]
        have hp':((x:Int) % 2 == 1) = true:=by simp;omega
        clear hp
        go_wp2
        go_round
        case rel=>exact ⟨k + 1,by omega,by go_num,by rw [HX.out,HE.out]⟩
        case measure=>simp [intOf];omega
      · have HE : Hid (Pl.bit x = x / 2) := by show Pl.bit x = _; unfold Pl.bit; rw [if_neg hp]
        have hp':((x:Int) % 2 == 1) = false:=by simp;omega
        clear hp
        go_wp2
        go_round
        case rel=>exact ⟨k + 1,by omega,by go_num,by rw [HX.out,HE.out];go_num⟩
        case measure=>simp [intOf];omega
    · obtain rfl : k = 8 := by omega
      clear HS hx0
      go_wp2
      go_ret
      rw [HP.out]
      exact ⟨rfl,rfl⟩
theorem take_snoc (s:ByteArray) (k:Nat) (h:k < s.size):s.data.toList.take (k + 1) = s.data.toList.take k ++ [s[k]]:=by
  rw [List.take_succ_eq_append_getElem (by simpa using h)];rfl
theorem i64_not (x:Nat) (hx:x < 4294967296):bits .xor .i64 (x:Int) 4294967295 = ((x ^^^ 4294967295:Nat):Int):=Pl.i64_xor x 4294967295 hx (by decide)
set_option maxHeartbeats 400000 in
theorem refSum_any (s : ByteArray) (w : World) (hs : s.size ≤ maxLen) :
    Calls Tryz.prog 24 #[.string s] w fun e w'=>e = .returned (.int .i64 (Pl.crc s.data.toList))/\w' = w:=by
  unfold maxLen at hs
  have HL:Hid (∀ k,Pl.sums 4294967295 (s.data.toList.take k) < 4294967296):=fun k=>Pl.sums_lt _ (by decide)
  have HC:Hid (Pl.crc s.data.toList = Pl.sums 4294967295 s.data.toList ^^^ 4294967295):=rfl
  go_enter Tryz.func24,Tryz.ntmps24
  go_wp2
  go_loop [3,4] (fun t i=>∃ k:Nat,k<=s.size/\i = .int .i64 k/\t = .int .i64 (Pl.sums 4294967295 (s.data.toList.take k))) (fun _ i=>s.size - (intOf i).toNat)
  case atStart=>exact ⟨0,by omega,rfl,rfl⟩
  case round =>
    obtain ⟨k,hk,rfl,rfl⟩:=hrel
    have hx:=HL.out k
    by_cases hlt:k < s.size
    · have HS : Hid (Pl.sums 4294967295 (s.data.toList.take (k + 1)) = Pl.byte (Pl.sums 4294967295 (s.data.toList.take k)) (s[k]'hlt).toNat) := by
        show _ = _
        rw [take_snoc s k hlt,Pl.sums_snoc]
      generalize Pl.sums 4294967295 (s.data.toList.take k) = x at *
      have hb:=(s[k]'hlt).toNat_lt
      go_wp2_with fail
      refine (bits_any x (s[k]'hlt).toNat _ hx hb).mono ?_
      rintro e w' ⟨rfl,rfl⟩
      go_wp2
      go_round
      case rel=>exact ⟨k + 1,by omega,by go_num,by rw [HS.out]⟩
      case measure=>simp [intOf];omega
    · obtain rfl : k = s.size := by omega
      rw [List.take_of_length_le (by simp)] at hx ⊢
      generalize hq:Pl.sums 4294967295 s.data.toList = x at *
      clear hq
      have hn:=i64_not x hx
      go_wp2
      go_ret
      rw [HC.out]
      exact ⟨rfl,rfl⟩
/-- The table lies in the world. -/
def Tab (w:World):Prop:=∀ j,j < 16->w.cell? ⟨0,j,none⟩ = some (.int .u32 (Pl.half j:Int))
theorem u32_xor (a b:Nat) (ha:a < 4294967296) (hb:b < 4294967296):bits .xor .u32 (a:Int) (b:Int) = ((a ^^^ b:Nat):Int):=u32_xor_nat a b ha hb
theorem u32_low (x:Nat) (hx:x < 4294967296):bits .and .u32 (x:Int) 15 = ((x % 16:Nat):Int):=by
  have:=u32_and_nat x 15 hx (by decide)
  rw [nat_mask4] at this
  exact this
theorem u32_not (x:Nat) (hx:x < 4294967296):bits .xor .u32 IntKind.u32.max (x:Int) = ((x ^^^ 4294967295:Nat):Int):=by
  have h:=u32_xor_nat 4294967295 x (by decide) hx
  rw [Nat.xor_comm]
  exact h
theorem u32_step (y h:Nat) (hy:y < 4294967296) (hh:h < 4294967296):bits .xor .u32 ((y:Int) / 16) (h:Int) = ((y / 16 ^^^ h:Nat):Int):=by
  have:=u32_xor (y / 16) h (by omega) hh
  simpa using this
set_option maxHeartbeats 1000000 in
theorem goOn_any (r : Nat) (s : ByteArray) (w : World) (hr : r < 4294967296) (hs : s.size ≤ maxLen) (ht : Tab w) :
    Calls Tryz.prog 42 #[.int .u32 r,.string s] w fun e w'=>e = .returned (.int .u32 (Pl.sums (r ^^^ 4294967295) s.data.toList ^^^ 4294967295:Nat))/\w' = w:=by
  unfold maxLen at hs
  have hn0:=u32_not r hr
  have HT:Hid (Tab w):=ht
  have hr':=Pl.xor_lt hr (show 4294967295 < 4294967296 by decide)
  generalize hq:r ^^^ 4294967295 = q at *
  clear hq
  have HL:Hid (∀ k,Pl.sums q (s.data.toList.take k) < 4294967296):=fun k=>Pl.sums_lt _ hr'
  clear ht hr
  go_enter Tryz.func42,Tryz.ntmps42
  go_wp2
  clear hn0
  go_loop [5,11] (fun t i=>∃ k:Nat,k<=s.size/\i = .int .i64 k/\t = .int .u32 (Pl.sums q (s.data.toList.take k))) (fun _ i=>s.size - (intOf i).toNat)
  case atStart=>exact ⟨0,by omega,rfl,rfl⟩
  case round =>
    obtain ⟨k,hk,rfl,rfl⟩:=hrel
    have hx:=HL.out k
    by_cases hlt:k < s.size
    · have HS : Hid (Pl.sums q (s.data.toList.take (k + 1)) = Pl.byte (Pl.sums q (s.data.toList.take k)) (s[k]'hlt).toNat) := by
        show _ = _
        rw [take_snoc s k hlt,Pl.sums_snoc]
      generalize Pl.sums q (s.data.toList.take k) = x at *
      have hb:=(s[k]'hlt).toNat_lt
      have x0:=u32_xor x (s[k]'hlt).toNat hx (by omega)
      have hy:=Pl.xor_lt hx (show (s[k]'hlt).toNat < 4294967296 by omega)
      have HB:Hid (Pl.byte x (s[k]'hlt).toNat = Pl.bitN 4 (Pl.bitN 4 (x ^^^ (s[k]'hlt).toNat))):=Pl.bitN_add 4 4 _
      generalize hyy:x ^^^ (s[k]'hlt).toNat = y at *
      clear hyy
      have HB1:Hid (Pl.bitN 4 y = y / 16 ^^^ Pl.half (y % 16)):=Pl.half_step y
      have l0:=u32_low y hy
      have c0:=HT.out (y % 16) (by omega)
      have hh0:Pl.half (y % 16) < 4294967296:=Pl.bitN_lt 4 (by omega)
      generalize Pl.half (y % 16) = h0 at *
      have x1:=u32_step y h0 hy hh0
      have hz:=Pl.xor_lt (show y / 16 < 4294967296 by omega) hh0
      generalize hzz:y / 16 ^^^ h0 = z at *
      clear hzz
      have HB2:Hid (Pl.bitN 4 z = z / 16 ^^^ Pl.half (z % 16)):=Pl.half_step z
      have l1:=u32_low z hz
      have c1:=HT.out (z % 16) (by omega)
      have hh1:Pl.half (z % 16) < 4294967296:=Pl.bitN_lt 4 (by omega)
      generalize Pl.half (z % 16) = h1 at *
      have x2:=u32_step z h1 hz hh1
      generalize hvv:z / 16 ^^^ h1 = v at *
      clear hvv
      go_wp2
      go_round
      case rel=>exact ⟨k + 1,by omega,by go_num,by rw [HS.out,HB.out,HB1.out,HB2.out]⟩
      case measure=>simp [intOf];omega
    · obtain rfl : k = s.size := by omega
      rw [List.take_of_length_le (by simp)] at hx ⊢
      generalize hq2:Pl.sums q s.data.toList = x at *
      have HQ:Hid (Pl.sums q s.data.toList = x):=hq2
      clear hq2
      have hn:=u32_not x hx
      go_wp2
      go_ret
      rw [HQ.out]
      exact ⟨rfl,rfl⟩
set_option maxHeartbeats 400000 in
theorem sum_any (s:ByteArray) (w:World) (hs:s.size<=maxLen) (ht:Tab w) :
    Calls Tryz.prog 23 #[.string s] w fun e w'=>e = .returned (.int .i64 (Pl.crc s.data.toList))/\w' = w:=by
  have HC:Hid (Pl.sums (0 ^^^ 4294967295) s.data.toList ^^^ 4294967295 = Pl.crc s.data.toList):=rfl
  have hc:=Pl.crc_lt s.data.toList
  have HT:Hid (Tab w):=ht
  clear ht
  go_enter Tryz.func23,Tryz.ntmps23
  go_wp2_with fail
  refine (goOn_any 0 s _ (by decide) hs HT.out).mono ?_
  rintro e w' ⟨rfl,rfl⟩
  rw [HC.out]
  generalize hcc:Pl.crc s.data.toList = c at *
  have HCC:Hid (Pl.crc s.data.toList = c):=hcc
  clear hcc
  go_wp2
  go_ret
  rw [HCC.out]
  exact ⟨rfl,rfl⟩
end Go.Proofs.YtggoccfddnpelaaGreatDoor.Po
namespace Go.Proofs.YtggoccfddnpelaaGreatDoor
open Go.ChangeShapes Go.WideShapes Go.ChangeAt Go.RowKit Go.Deep It
set_option maxRecDepth 100000
theorem potab_up {w w':World} (h:Po.Tab w) (hb:Below w.heap.size w w'):Po.Tab w':=fun j hj=>by
  have hp:0 < w.heap.size:=by
    have h0:=h 0 (by decide)
    rcases Nat.eq_zero_or_pos w.heap.size with h' | h'
    · have : w.heap[0]? = none := Array.getElem?_eq_none (by omega)
      simp [World.cell?,this] at h0
    · exact h'
  rw [hb.cell (p:=⟨0,j,none⟩) hp]
  exact h j hj
noncomputable def Sh.dgN (L:List Ino) (O:List Os.Opn) (Z:List Es.Sea) (dn:Int):Int:=if Sh.pkE L O Z dn = 0 then (Po.Pl.crc (Sh.pkO L O Z dn).data.toList:Int) else 0
set_option maxHeartbeats 2000000 in
theorem shdig_any {S:Nat->Prop} (vi vo vz:Value) (dn:Int) (L:List Rw) (O:List Os.Opn) (Z:List Es.Sea) (w:World) (hv:TabAt S w vi L) (hok:Sp.okN L) (ho:AtW Os.EO w vo O) (hz:AtW Es.ES w vz Z) (hs:Sh.whole (pl L) O Z dn = true->Sh.wts (pl L)<=12000) (ht:Po.Tab w) :
    Calls Tryz.prog 8 #[VSt vi vo vz dn] w fun e w'=>e = .returned (.tuple #[.int .i64 (Sh.dgN (pl L) O Z dn),.int .i64 (Sh.pkE (pl L) O Z dn)])/\Below w.heap.size w w':=by
  obtain ⟨ia,ic,hi,-,-⟩:=hv.open
  obtain ⟨oa,oc,hoo,-,-⟩:=ho.open
  obtain ⟨za,zc,hzz,-,-⟩:=hz.open
  obtain ⟨n,hn⟩:∃ n,L.length = n:=⟨_,rfl⟩
  obtain ⟨on,hon⟩:∃ n,O.length = n:=⟨_,rfl⟩
  obtain ⟨zn,hzn⟩:∃ n,Z.length = n:=⟨_,rfl⟩
  rw [hn] at hi
  rw [hon] at hoo
  rw [hzn] at hzz
  subst hi hoo hzz
  obtain ⟨W,hW⟩:∃ V,V = w.alloc (BSt (.slice ia n ic) (.slice oa on oc) (.slice za zn zc) dn):=⟨_,rfl⟩
  have HB:Hid (Below w.heap.size w W):=by show Below _ _ _;rw [hW];exact (Below.refl _ w).alloc (Nat.le_refl _) _
  have HX:Hid (W.heap[w.heap.size]? = some (BSt (.slice ia n ic) (.slice oa on oc) (.slice za zn zc) dn)):=by show _ = _;rw [hW];exact heap_alloc_new _ _
  have HPK:Hid (∀ V,Below w.heap.size w V->Calls Tryz.prog 6 #[VSt (.slice ia n ic) (.slice oa on oc) (.slice za zn zc) dn] V fun e w'=>e = .returned (.tuple #[.string (Sh.pkO (pl L) O Z dn),.int .i64 (Sh.pkE (pl L) O Z dn)])/\Below V.heap.size V w'):=fun V h=>shpack_any _ _ _ _ L O Z V (hv.up h) hok (ho.up h) (hz.up h) (fun h=>Sh.sm_of (hs h))
  have HDG:Hid (Sh.dgN (pl L) O Z dn = if Sh.pkE (pl L) O Z dn = 0 then (Po.Pl.crc (Sh.pkO (pl L) O Z dn).data.toList:Int) else 0):=rfl
  have HSZ:Hid ((Sh.pkO (pl L) O Z dn).size<=maxLen):=Nat.le_trans (Sh.pkO_le hs) (by decide)
  have HT:Hid (Po.Tab w):=ht
  generalize Sh.pkO (pl L) O Z dn = po at HPK HDG HSZ
  generalize Sh.pkE (pl L) O Z dn = pe at HPK HDG ⊢
  generalize Sh.dgN (pl L) O Z dn = q at HDG ⊢
  obtain ⟨x0,x1,x2,x3⟩:=st_of HX.out
  rw [hW] at x0 x1 x2 x3
  clear hv hok ho hz hs ht hn hon hzn
  go_enter Tryz.func8,Tryz.ntmps8
  go_wp2_with fail
  rw [← hW]
  clear hW x0 x1 x2 x3
  refine (HPK.out _ HB.out).mono ?_
  rintro e w1 ⟨rfl,hb1⟩
  have HB1:Hid (Below w.heap.size w w1):=HB.out.trans (hb1.mono HB.out.size)
  clear hb1
  by_cases h0:pe = 0
  · subst h0
    have HQ:Hid (q = (Po.Pl.crc po.data.toList:Int)):=by show _ = _;rw [HDG.out,if_pos rfl]
    go_wp2_with fail
    refine (Po.sum_any po _ HSZ.out (potab_up HT.out HB1.out)).mono ?_
    rintro e w2 ⟨rfl,rfl⟩
    rw [← HQ.out]
    go_wp2
    (try simp only [Exit.inBlock,Exit.then])
    refine bodyPost_ret (v:=.tuple #[.int .i64 q,.int .i64 0]) (by simp [results,Tryz.results8,go_sem]) rfl ⟨rfl,HB1.out⟩
  · have HQ : Hid (q = 0) := by show _ = _; rw [HDG.out, if_neg h0]
    have t0:(pe != 0) = true:=by simp [h0]
    clear h0
    go_wp2
    (try simp only [Exit.inBlock,Exit.then])
    refine bodyPost_ret (v:=.tuple #[.int .i64 0,.int .i64 pe]) (by simp [results,Tryz.results8,go_sem]) rfl ⟨by rw [HQ.out],HB1.out⟩
set_option maxHeartbeats 2000000 in
theorem rdig_any {S:Nat->Prop} (vi vo vz:Value) (dn:Int) (L:List Rw) (O:List Os.Opn) (Z:List Es.Sea) (w:World) (hv:TabAt S w vi L) (hok:Sp.okN L) (ho:AtW Os.EO w vo O) (hz:AtW Es.ES w vz Z) (hs:Sh.whole (pl L) O Z dn = true->Sh.wts (pl L)<=12000) :
    Calls Tryz.prog 9 #[VSt vi vo vz dn] w fun e w'=>e = .returned (.tuple #[.int .i64 (Sh.dgN (pl L) O Z dn),.int .i64 (Sh.pkE (pl L) O Z dn)])/\Below w.heap.size w w':=by
  obtain ⟨ia,ic,hi,-,-⟩:=hv.open
  obtain ⟨oa,oc,hoo,-,-⟩:=ho.open
  obtain ⟨za,zc,hzz,-,-⟩:=hz.open
  obtain ⟨n,hn⟩:∃ n,L.length = n:=⟨_,rfl⟩
  obtain ⟨on,hon⟩:∃ n,O.length = n:=⟨_,rfl⟩
  obtain ⟨zn,hzn⟩:∃ n,Z.length = n:=⟨_,rfl⟩
  rw [hn] at hi
  rw [hon] at hoo
  rw [hzn] at hzz
  subst hi hoo hzz
  obtain ⟨W,hW⟩:∃ V,V = w.alloc (BSt (.slice ia n ic) (.slice oa on oc) (.slice za zn zc) dn):=⟨_,rfl⟩
  have HB:Hid (Below w.heap.size w W):=by show Below _ _ _;rw [hW];exact (Below.refl _ w).alloc (Nat.le_refl _) _
  have HX:Hid (W.heap[w.heap.size]? = some (BSt (.slice ia n ic) (.slice oa on oc) (.slice za zn zc) dn)):=by show _ = _;rw [hW];exact heap_alloc_new _ _
  have HPK:Hid (∀ V,Below w.heap.size w V->Calls Tryz.prog 7 #[VSt (.slice ia n ic) (.slice oa on oc) (.slice za zn zc) dn] V fun e w'=>e = .returned (.tuple #[.string (Sh.pkO (pl L) O Z dn),.int .i64 (Sh.pkE (pl L) O Z dn)])/\Below V.heap.size V w'):=fun V h=>rpackS_any _ _ _ _ L O Z V (hv.up h) hok (ho.up h) (hz.up h) (fun h=>Sh.sm_of (hs h))
  have HDG:Hid (Sh.dgN (pl L) O Z dn = if Sh.pkE (pl L) O Z dn = 0 then (Po.Pl.crc (Sh.pkO (pl L) O Z dn).data.toList:Int) else 0):=rfl
  have HSZ:Hid ((Sh.pkO (pl L) O Z dn).size<=maxLen):=Nat.le_trans (Sh.pkO_le hs) (by decide)
  generalize Sh.pkO (pl L) O Z dn = po at HPK HDG HSZ
  generalize Sh.pkE (pl L) O Z dn = pe at HPK HDG ⊢
  generalize Sh.dgN (pl L) O Z dn = q at HDG ⊢
  obtain ⟨x0,x1,x2,x3⟩:=st_of HX.out
  rw [hW] at x0 x1 x2 x3
  clear hv hok ho hz hs hn hon hzn
  go_enter Tryz.func9,Tryz.ntmps9
  go_wp2_with fail
  rw [← hW]
  clear hW x0 x1 x2 x3
  refine (HPK.out _ HB.out).mono ?_
  rintro e w1 ⟨rfl,hb1⟩
  have HB1:Hid (Below w.heap.size w w1):=HB.out.trans (hb1.mono HB.out.size)
  clear hb1
  by_cases h0:pe = 0
  · subst h0
    have HQ:Hid (q = (Po.Pl.crc po.data.toList:Int)):=by show _ = _;rw [HDG.out,if_pos rfl]
    go_wp2_with fail
    refine (Po.refSum_any po _ HSZ.out).mono ?_
    rintro e w2 ⟨rfl,rfl⟩
    rw [← HQ.out]
    go_wp2
    (try simp only [Exit.inBlock,Exit.then])
    refine bodyPost_ret (v:=.tuple #[.int .i64 q,.int .i64 0]) (by simp [results,Tryz.results9,go_sem]) rfl ⟨rfl,HB1.out⟩
  · have HQ : Hid (q = 0) := by show _ = _; rw [HDG.out, if_neg h0]
    have t0:(pe != 0) = true:=by simp [h0]
    clear h0
    go_wp2
    (try simp only [Exit.inBlock,Exit.then])
    refine bodyPost_ret (v:=.tuple #[.int .i64 0,.int .i64 pe]) (by simp [results,Tryz.results9,go_sem]) rfl ⟨by rw [HQ.out],HB1.out⟩
structure RS (n0 A:Nat) (x:Sh.Sta) (L:List Rw) (vi vo vz:Value) (w0 w:World):Prop where
  box:w.heap[A]? = some (BSt vi vo vz x.dn)
  eq:pl L = x.L
  rowI:Row EI w n0 43 vi L
  good:∀ r∈L,Row ER w n0 45 (.slice r.rp r.rn r.rc) r.i.runs/\Row EE w n0 79 (.slice r.ep r.en r.ec) r.i.ents
  rowO:Row Os.EO w n0 59 vo x.O
  rowZ:Row Es.ES w n0 62 vz x.Z
  base:n0<=A
  bl:Below n0 w0 w
  st:n0<=w0.heap.size
section
variable {n0 A:Nat} {x:Sh.Sta} {L:List Rw} {vi vo vz:Value} {w0 w w':World}
theorem RS.sz (h:RS n0 A x L vi vo vz w0 w):n0<=w.heap.size:=Nat.le_trans h.st h.bl.size
theorem RS.lt (h:RS n0 A x L vi vo vz w0 w):A < w.heap.size:=(Array.getElem?_eq_some_iff.1 h.box).1
theorem RS.up (h:RS n0 A x L vi vo vz w0 w) (hb:Below w.heap.size w w'):RS n0 A x L vi vo vz w0 w':=⟨(hb.block _ h.lt).trans h.box,h.eq,h.rowI.up hb,fun r hr=>⟨(h.good r hr).1.up hb,(h.good r hr).2.up hb⟩,h.rowO.up hb,h.rowZ.up hb,h.base,h.bl.trans (hb.mono h.sz),h.st⟩
theorem RS.drew (h:RS n0 A x L vi vo vz w0 w):RS n0 A x L vi vo vz w0 w.drew:=⟨h.box,h.eq,h.rowI,h.good,h.rowO,h.rowZ,h.base,h.bl.drew,h.st⟩
theorem RS.ne {b:Nat} {s:ByteArray} (h:RS n0 A x L vi vo vz w0 w) (hb:w.heap[b]? = some (BT s)):A≠b:=by
  rintro rfl
  rw [h.box] at hb
  cases hb
theorem RS.tx {b:Nat} {s t:ByteArray} (h:RS n0 A x L vi vo vz w0 w) (hb:w.heap[b]? = some (BT s)) (hn:n0<=b) (k:Tx b t w w'):RS n0 A x L vi vo vz w0 w' :=
  ⟨k.at h.box (h.ne hb),h.eq,h.rowI.kept k.gr (h.rowI.off hb (by decide)),fun r hr=>⟨(h.good r hr).1.kept k.gr ((h.good r hr).1.off hb (by decide)),(h.good r hr).2.kept k.gr ((h.good r hr).2.off hb (by decide))⟩,h.rowO.kept k.gr (h.rowO.off hb (by decide)),h.rowZ.kept k.gr (h.rowZ.off hb (by decide)),h.base,k.below h.bl hn h.sz,h.st⟩
/-- The box is written, the rows lie elsewhere. -/
theorem RS.put {y:Sh.Sta} {K:List Rw} {v0 v1 v2:Value} {k:Nat} {u:Value} {w9:World} (hb:w9.heap[A]? = some (BSt vi vo vz x.dn)) (hc:(#[vi,vo,vz,.int .i64 x.dn]:Array Value).setIfInBounds k u = #[v0,v1,v2,.int .i64 y.dn]) (he:pl K = y.L)
    (h1:Row EI w9 n0 43 v0 K) (h2:∀ r∈K,Row ER w9 n0 45 (.slice r.rp r.rn r.rc) r.i.runs/\Row EE w9 n0 79 (.slice r.ep r.en r.ec) r.i.ents) (h3:Row Os.EO w9 n0 59 v1 y.O) (h4:Row Es.ES w9 n0 62 v2 y.Z) (hA:n0<=A) (hB:Below n0 w0 w9) (hs:n0<=w9.heap.size) (hst:n0<=w0.heap.size):RS n0 A y K v0 v1 v2 w0 (w9.setCell ⟨A,k,none⟩ u):=by
  have hg:=grs w9 A k u
  refine ⟨?_,he,h1.kept hg (h1.off hb (by decide)),fun r hr=>⟨(h2 r hr).1.kept hg ((h2 r hr).1.off hb (by decide)),(h2 r hr).2.kept hg ((h2 r hr).2.off hb (by decide))⟩,h3.kept hg (h3.off hb (by decide)),h4.kept hg (h4.off hb (by decide)),hA,hB.grown hg hs (fun j hj=>by cases hj;exact hA),hst⟩
  have:=set_at hb k u
  rw [hc] at this
  exact this
theorem RS.done (h:RS n0 A x L vi vo vz w0 w) (d:Int):RS n0 A { x with dn:=d } L vi vo vz w0 (w.setCell ⟨A,3,none⟩ (.int .i64 d)) :=
  RS.put (y:={ x with dn:=d }) h.box (by simp) h.eq h.rowI h.good h.rowO h.rowZ h.base h.bl h.sz h.st
theorem RS.at_ {row:Option Nat} {w9:World} (h:RS n0 A x L vi vo vz w0 w) (hg:w.grownBy w9 row) (hr:row≠some A):w9.heap[A]? = some (BSt vi vo vz x.dn):=(hg.block A h.lt (fun e=>hr e.symm)).trans h.box
/-- An inode more. -/
theorem RS.ino {r:Rw} {v9:Value} {w9:World} (h:RS n0 A x L vi vo vz w0 w) (hr:Row EI w9 n0 43 v9 (L ++ [r])) (hg:w.grownBy w9 vi.ownBlock) (g1:Row ER w n0 45 (.slice r.rp r.rn r.rc) r.i.runs) (g2:Row EE w n0 79 (.slice r.ep r.en r.ec) r.i.ents) :
    RS n0 A { x with L:=x.L ++ [r.i] } (L ++ [r]) v9 vo vz w0 (w9.setCell ⟨A,0,none⟩ v9)/\w9.heap[A]? = some (BSt vi vo vz x.dn):=by
  have hb:=h.at_ hg (h.rowI.off' h.box (by decide))
  refine ⟨RS.put (y:={ x with L:=x.L ++ [r.i] }) hb (by simp) (by simp [pl,← h.eq]) hr (fun q hq=>?_) (h.rowO.kept hg (h.rowO.apart h.rowI (by decide))) (h.rowZ.kept hg (h.rowZ.apart h.rowI (by decide))) h.base (h.bl.grown hg h.sz (fun j hj=>(h.rowI.lt j hj).1)) (Nat.le_trans h.sz hg.size) h.st,hb⟩
  have gg:Row ER w n0 45 (.slice q.rp q.rn q.rc) q.i.runs/\Row EE w n0 79 (.slice q.ep q.en q.ec) q.i.ents:=by
    rcases List.mem_append.1 hq with h' | h'
    · exact h.good q h'
    · rw [List.mem_singleton] at h';subst h';exact ⟨g1,g2⟩
  exact ⟨gg.1.kept hg (gg.1.apart h.rowI (by decide)),gg.2.kept hg (gg.2.apart h.rowI (by decide))⟩
/-- An open more. -/
theorem RS.opn {r:Os.Opn} {v9:Value} {w9:World} (h:RS n0 A x L vi vo vz w0 w) (hr:Row Os.EO w9 n0 59 v9 (x.O ++ [r])) (hg:w.grownBy w9 vo.ownBlock) :
    RS n0 A { x with O:=x.O ++ [r] } L vi v9 vz w0 (w9.setCell ⟨A,1,none⟩ v9)/\w9.heap[A]? = some (BSt vi vo vz x.dn):=by
  have hb:=h.at_ hg (h.rowO.off' h.box (by decide))
  exact ⟨RS.put (y:={ x with O:=x.O ++ [r] }) hb (by simp) h.eq (h.rowI.kept hg (h.rowI.apart h.rowO (by decide))) (fun q hq=>⟨(h.good q hq).1.kept hg ((h.good q hq).1.apart h.rowO (by decide)),(h.good q hq).2.kept hg ((h.good q hq).2.apart h.rowO (by decide))⟩) hr (h.rowZ.kept hg (h.rowZ.apart h.rowO (by decide))) h.base (h.bl.grown hg h.sz (fun j hj=>(h.rowO.lt j hj).1)) (Nat.le_trans h.sz hg.size) h.st,hb⟩
/-- A seat more. -/
theorem RS.sea {r:Es.Sea} {v9:Value} {w9:World} (h:RS n0 A x L vi vo vz w0 w) (hr:Row Es.ES w9 n0 62 v9 (x.Z ++ [r])) (hg:w.grownBy w9 vz.ownBlock) :
    RS n0 A { x with Z:=x.Z ++ [r] } L vi vo v9 w0 (w9.setCell ⟨A,2,none⟩ v9)/\w9.heap[A]? = some (BSt vi vo vz x.dn):=by
  have hb:=h.at_ hg (h.rowZ.off' h.box (by decide))
  exact ⟨RS.put (y:={ x with Z:=x.Z ++ [r] }) hb (by simp) h.eq (h.rowI.kept hg (h.rowI.apart h.rowZ (by decide))) (fun q hq=>⟨(h.good q hq).1.kept hg ((h.good q hq).1.apart h.rowZ (by decide)),(h.good q hq).2.kept hg ((h.good q hq).2.apart h.rowZ (by decide))⟩) (h.rowO.kept hg (h.rowO.apart h.rowZ (by decide))) hr h.base (h.bl.grown hg h.sz (fun j hj=>(h.rowZ.lt j hj).1)) (Nat.le_trans h.sz hg.size) h.st,hb⟩
end
end Go.Proofs.YtggoccfddnpelaaGreatDoor
namespace Go.Proofs.YtggoccfddnpelaaGreatDoor
open It Go.RowKit
set_option maxRecDepth 100000
namespace Sh
theorem val_le (s:ByteArray) (h:s.size<=7):-9223372036854775808<=Ks.Pl.numVal s/\Ks.Pl.numVal s<=9223372036854775807:=by
  unfold Ks.Pl.numVal
  split
  · decide
  · have h1 := Ks.Pl.numOf_lt s.data.toList
    have e:s.data.toList.length = s.size:=by simp
    rw [e] at h1
    have h2:(256:Nat) ^ s.size<=256 ^ 7:=Nat.pow_le_pow_right (by decide) h
    have h3:(256:Nat) ^ 7 = 72057594037927936:=by decide
    generalize Ks.Pl.numOf s.data.toList = m at *
    omega
theorem nm_le (n:Nat) (s:ByteArray) (h:n<=7):-9223372036854775808<=nm n s/\nm n s<=9223372036854775807:=val_le _ (by unfold tk;rw [ByteArray.size_extract];omega)
/-- Each run and each entry is small. -/
structure Oks (x:Ino):Prop where
  runs:∀ r∈x.runs,(-9223372036854775808<=r.1/\r.1<=9223372036854775807)/\r.2.size<=65535
  ents:∀ e∈x.ents,e.1.size<=65535
theorem st_ok (x : Ino) (f : F) (h : Oks x) (hf : f.2.size ≤ 65535) : Oks (stI x f) := by
  unfold stI
  split
  · exact ⟨h.runs,h.ents⟩
  · split
    · refine ⟨fun r hr => ?_, h.ents⟩
      rcases List.mem_append.1 hr with hr | hr
      · exact h.runs r hr
      · rw [List.mem_singleton] at hr
        subst hr
        have h1:=nm_le 4 f.2 (by decide)
        have h2:=Nat.le_trans (dr_size 4 f.2) hf
        have e:rdR f.2 = (nm 4 f.2,dr 4 f.2):=rfl
        rw [e]
        exact ⟨h1,h2⟩
    · split
      · refine ⟨h.runs, fun e he => ?_⟩
        rcases List.mem_append.1 he with he | he
        · exact h.ents e he
        · rw [List.mem_singleton] at he
          subst he
          show (dr 6 (dr 1 (dr 6 f.2))).size<=65535
          have h1:=dr_size 6 (dr 1 (dr 6 f.2))
          have h2:=dr_size 1 (dr 6 f.2)
          have h3:=dr_size 6 f.2
          omega
      · exact h
theorem fold_ok (st:Ino->F->Ino) (hst:∀ x f,Oks x->f.2.size<=65535->Oks (st x f)):∀ (l:List F) (x:Ino),(∀ f∈l,f.2.size<=65535)->Oks x->Oks (l.foldl st x)
  | [],x,_,h=>h
  | f :: l,x,hl,h=>fold_ok st hst l (st x f) (fun g hg=>hl g (by simp [hg])) (hst x f h (hl f (by simp)))
theorem zero_ok:Oks zeroI:=⟨fun r hr=>(by cases hr),fun r hr=>(by cases hr)⟩
theorem rdI_ok (s:ByteArray):Oks (rdI s):=fold_ok stI st_ok _ _ (fld_size s) zero_ok
theorem okI_of {x:Ino} (h:Oks x) (h1:x.runs.length<=65535) (h2:x.ents.length<=65535):okI x:=⟨fun r hr=>⟨(h.runs r hr).1,Nat.le_trans (h.runs r hr).2 (by decide)⟩,by omega,by omega⟩
theorem rdS_ok (b:ByteArray):∀ x∈(rdS b).L,okI x/\∀ e∈x.ents,e.1.size<=maxLen:=fun x hx=>by
  obtain ⟨f,hf,rfl⟩:=rdS_mem b x hx
  have h1:=rdI_len f.2
  have h2:=fld_size b f hf
  exact ⟨okI_of (rdI_ok _) (by omega) (by omega),fun e he=>Nat.le_trans ((rdI_ok _).ents e he) (by decide)⟩
theorem unp_no {x:Sta} {b:ByteArray} (hx:x = rdS b∨x = qS b) (h:isS x b = false):unpS b = st0/\unpE b = 4:=by
  have:isS (rdS b) b = false:=by
    rcases hx with rfl | rfl
    · exact h
    · rw [← (isS_q b).1];exact h
  unfold unpS unpE
  rw [this]
  exact ⟨rfl,rfl⟩
theorem unp_yes {x:Sta} {b:ByteArray} (hx:x = rdS b∨x = qS b) (h:isS x b = true):unpS b = x/\unpE b = 0:=by
  have h1:isS (rdS b) b = true:=by
    rcases hx with rfl | rfl
    · exact h
    · rw [← (isS_q b).1];exact h
  have h2:rdS b = x:=by
    rcases hx with rfl | rfl
    · rfl
    · exact ((isS_q b).2 h1).symm
  unfold unpS unpE
  rw [h1]
  exact ⟨h2,rfl⟩
theorem isS_iff (x:Sta) (b:ByteArray):isS x b = true ↔ pkE x.L x.O x.Z x.dn = 0/\pkO x.L x.O x.Z x.dn = b:=by
  unfold isS
  simp only [Bool.and_eq_true,decide_eq_true_eq]
end Sh
end Go.Proofs.YtggoccfddnpelaaGreatDoor
