/- KBackP, TNum, NKit, TNumber, as one. -/
import Derived.Test.YtggoccfddnpelaaGreatChecked
import Derived.RangeFuncBox
import Derived.OneCell
import Derived.Test.YtggoccfddnpelaaGreatR13
namespace Go.Proofs.YtggoccfddnpelaaGreat.Ks
set_option maxRecDepth 100000
namespace Ak
theorem packErr_snoc:∀ (l:List (Int × ByteArray)) (last:Int) (y:Int × ByteArray),Pl.packErr last l = 0->(∀ x∈l,x.1<=y.1)->last<=y.1->1<=y.1->y.1<=255->y.2.size<=65535->Pl.packErr last (l ++ [y]) = 0
  | [], last, y, _, _, h1, h2, h3, h4 => by
    have:Pl.badAt last y = 0:=by unfold Pl.badAt;rw [if_neg (by omega),if_neg (by omega),if_neg (by omega)]
    simp [Pl.packErr,this]
  | x :: l, last, y, hp, hx, h1, h2, h3, h4 => by
    have hb:Pl.badAt last x = 0:=by
      unfold Pl.packErr at hp
      split at hp
      · assumption
      · exact hp
    have hp':Pl.packErr x.1 l = 0:=by
      unfold Pl.packErr at hp
      rwa [if_pos hb] at hp
    show Pl.packErr last (x :: (l ++ [y])) = 0
    unfold Pl.packErr
    rw [if_pos hb]
    exact packErr_snoc l x.1 y hp' (fun z hz=>hx z (by simp [hz])) (hx x (by simp)) h2 h3 h4
/-- Fields that can be packed, whose tags are at most t, and whose bytes are at most n. -/
def Up (l:List (Int × ByteArray)) (t:Int) (n:Nat):Prop:=Pl.packErr 1 l = 0/\(∀ x∈l,x.1<=t)/\(Pl.encs l).length<=n
theorem Up.opt {l:List (Int × ByteArray)} {t u:Int} {n m:Nat} {b:Bool} {s:ByteArray} (h:Up l t n) (h1:1<=t) (ht:t < u) (hu:u<=255) (hs:s.size<=m) (hm:m<=65535):Up (l ++ opt b (u,s)) u (n + 3 + m):=by
  obtain ⟨h0,h2,h3⟩:=h
  unfold Ak.opt
  cases b with
  | true =>
    rw [if_pos rfl]
    refine ⟨packErr_snoc l 1 (u,s) h0 (fun x hx=>?_) ?_ ?_ ?_ ?_,?_,?_⟩
    · have:=h2 x hx;simp only;omega
    · simp only;omega
    · simp only;omega
    · simp only;omega
    · simp only;omega
    · intro x hx
      rcases List.mem_append.1 hx with hx | hx
      · have:=h2 x hx;omega
      · simp at hx;subst hx;simp
    · have e : Pl.encs (l ++ [(u, s)]) = Pl.encs l ++ Pl.encOne (u, s) := by simp [Pl.encs]
      have:=Pl.encOne_length (u,s)
      rw [e,List.length_append]
      simp only at this
      omega
  | false =>
    rw [if_neg (by decide),List.append_nil]
    exact ⟨h0,fun x hx=>by have:=h2 x hx;omega,by omega⟩
theorem numOut_le (n z:Int):(Pl.numOut n z).size<=8:=by
  unfold Pl.numOut
  split
  · decide
  · rename_i h
    rw [Pl.txt_size,Pl.digits_length]
    unfold Pl.numBad at h
    simp at h
    omega
theorem hbytes_le (a b:Int):(hbytes a b).size<=16:=by
  have h1:=numOut_le a 1
  have h2:=numOut_le b 6
  unfold hbytes
  rw [ByteArray.size_append]
  omega
theorem up_one (c:Cl):Up (f1 c) 1 11:=by
  have h:=numOut_le c.k 1
  refine ⟨?_,?_,?_⟩
  · have : Pl.badAt 1 (1, Pl.numOut c.k 1) = 0 := by unfold Pl.badAt; simp only; rw [if_neg (by omega), if_neg (by omega), if_neg (by omega)]
    simp [f1,Pl.packErr,this]
  · intro x hx;simp [f1] at hx;subst hx;simp
  · have := Pl.encOne_length (1, Pl.numOut c.k 1)
    simp only at this
    simp only [f1,Pl.encs,List.flatMap_cons,List.flatMap_nil,List.append_nil]
    omega
theorem up_fields {c:Cl} (h:rightP c):Up (fields c) 8 1700:=by
  obtain ⟨hk,hh,hh2,hn,hn2,hp,hnn,hd⟩:=h
  have a2:=(up_one c).opt (b:=hnz c.no c.gen) (u:=2) (s:=hbytes c.no c.gen) (by omega) (by omega) (by omega) (hbytes_le _ _) (by omega)
  have a3:=a2.opt (b:=hnz c.no2 c.gen2) (u:=3) (s:=hbytes c.no2 c.gen2) (by omega) (by omega) (by omega) (hbytes_le _ _) (by omega)
  have a4:=a3.opt (b:=snz c.nm) (u:=4) (s:=c.nm) (by omega) (by omega) (by omega) hn (by omega)
  have a5:=a4.opt (b:=snz c.nm2) (u:=5) (s:=c.nm2) (by omega) (by omega) (by omega) hn2 (by omega)
  have a6:=a5.opt (b:=c.pl != 0) (u:=6) (s:=Pl.numOut c.pl 4) (by omega) (by omega) (by omega) (numOut_le _ _) (by omega)
  have a7:=a6.opt (b:=c.n != 0) (u:=7) (s:=Pl.numOut c.n 2) (by omega) (by omega) (by omega) (numOut_le _ _) (by omega)
  have a8:=a7.opt (b:=snz c.data) (u:=8) (s:=c.data) (by omega) (by omega) (by omega) hd (by omega)
  exact ⟨a8.1,a8.2.1,Nat.le_trans a8.2.2 (by omega)⟩
theorem callOf_opt (l:List (Int × ByteArray)) (b:Bool) (x:Int × ByteArray):callOf (l ++ opt b x) = if b then withF (callOf l) x else callOf l:=by
  unfold opt
  cases b with
  | true=>rw [if_pos rfl,if_pos rfl,callOf_snoc]
  | false=>rw [if_neg (by decide),if_neg (by decide),List.append_nil]
theorem empty_of {s:ByteArray} (h:snz s = false):s = ⟨#[]⟩:=by
  unfold snz at h
  rw [ByteArray.toList_eq] at h
  simp at h
  cases s
  simp at h
  rw [h]
theorem hz_of {no gen:Int} (h:hnz no gen = false):no = 0/\gen = 0:=by
  unfold hnz at h
  simp at h
  exact h
theorem callOf_fields {c:Cl} (h:rightP c):callOf (fields c) = c:=by
  obtain ⟨hk,hh,hh2,hn,hn2,hp,hnn,hd⟩:=h
  have g1:callOf (f1 c) = ⟨c.k,0,0,0,0,⟨#[]⟩,⟨#[]⟩,0,0,⟨#[]⟩⟩:=by
    have:Pl.numVal (Pl.numOut c.k 1) = c.k:=val_num (z:=1) (by omega) (by omega) (by omega) (by omega)
    simp [callOf,f1,withF,zero,this]
  have g2:callOf (f2 c) = ⟨c.k,c.no,c.gen,0,0,⟨#[]⟩,⟨#[]⟩,0,0,⟨#[]⟩⟩:=by
    unfold f2
    rw [callOf_opt,g1]
    cases hz:hnz c.no c.gen with
    | true=>rw [if_pos rfl];obtain ⟨e1,e2⟩:=hback hh;simp [withF,e1,e2]
    | false=>rw [if_neg (by decide)];obtain ⟨e1,e2⟩:=hz_of hz;rw [e1,e2]
  have g3:callOf (f3 c) = ⟨c.k,c.no,c.gen,c.no2,c.gen2,⟨#[]⟩,⟨#[]⟩,0,0,⟨#[]⟩⟩:=by
    unfold f3
    rw [callOf_opt,g2]
    cases hz:hnz c.no2 c.gen2 with
    | true=>rw [if_pos rfl];obtain ⟨e1,e2⟩:=hback hh2;simp [withF,e1,e2]
    | false=>rw [if_neg (by decide)];obtain ⟨e1,e2⟩:=hz_of hz;rw [e1,e2]
  have g4:callOf (f4 c) = ⟨c.k,c.no,c.gen,c.no2,c.gen2,c.nm,⟨#[]⟩,0,0,⟨#[]⟩⟩:=by
    unfold f4
    rw [callOf_opt,g3]
    cases hz:snz c.nm with
    | true=>rw [if_pos rfl];simp [withF]
    | false=>rw [if_neg (by decide),empty_of hz]
  have g5:callOf (f5 c) = ⟨c.k,c.no,c.gen,c.no2,c.gen2,c.nm,c.nm2,0,0,⟨#[]⟩⟩:=by
    unfold f5
    rw [callOf_opt,g4]
    cases hz:snz c.nm2 with
    | true=>rw [if_pos rfl];simp [withF]
    | false=>rw [if_neg (by decide),empty_of hz]
  have g6:callOf (f6 c) = ⟨c.k,c.no,c.gen,c.no2,c.gen2,c.nm,c.nm2,c.pl,0,⟨#[]⟩⟩:=by
    unfold f6
    rw [callOf_opt,g5]
    cases hz:(c.pl != 0) with
    | true =>
      have:Pl.numVal (Pl.numOut c.pl 4) = c.pl:=val_num (z:=4) (by omega) (by omega) (by omega) (by omega)
      rw [if_pos rfl];simp [withF,this]
    | false => have : c.pl = 0 := by simpa using hz
               rw [if_neg (by decide),this]
  have g7:callOf (f7 c) = ⟨c.k,c.no,c.gen,c.no2,c.gen2,c.nm,c.nm2,c.pl,c.n,⟨#[]⟩⟩:=by
    unfold f7
    rw [callOf_opt,g6]
    cases hz:(c.n != 0) with
    | true =>
      have:Pl.numVal (Pl.numOut c.n 2) = c.n:=val_num (z:=2) (by omega) (by omega) (by omega) (by omega)
      rw [if_pos rfl];simp [withF,this]
    | false => have : c.n = 0 := by simpa using hz
               rw [if_neg (by decide),this]
  unfold fields
  rw [callOf_opt,g7]
  cases hz:snz c.data with
  | true=>rw [if_pos rfl];simp [withF]
  | false=>have:=empty_of hz;rw [if_neg (by decide)];cases c;simp only at this;rw [this]
/-- What was packed is unpacked. -/
theorem back {c:Cl} (h:right c = true):unpC (Pl.encs (fields c)) = c/\unpE (Pl.encs (fields c)) = 0/\(Pl.encs (fields c)).length<=1700:=by
  have hr:=right_iff.1 h
  have hu:=up_fields hr
  obtain ⟨e1,e2⟩:=Pl.unp_encs (fields c) hu.1
  have hc:isCall (Pl.encs (fields c)) = true:=by
    unfold isCall
    rw [e1,e2,callOf_fields hr,h]
    simp
  refine ⟨?_,?_,hu.2.2⟩
  · unfold unpC;rw [if_pos hc,e1,callOf_fields hr]
  · unfold unpE;rw [if_pos hc]
theorem unp_bad {L:List UInt8} (h:unpE L≠0):unpC L = zero/\unpE L = 413:=by
  unfold unpE at h
  unfold unpC unpE
  split at h
  · exact absurd rfl h
  · rename_i hc
    simp [hc]
end Ak
end Go.Proofs.YtggoccfddnpelaaGreat.Ks
namespace Go.Proofs.YtggoccfddnpelaaGreat.Ks
open Go.ChangeShapes Go.WideShapes Go.ChangeAt Go.RowKit Go.Deep
set_option maxRecDepth 100000
theorem laidOut:laidOutB Tryz.prog = true:=by kernel_rfl
theorem own:ownKnob Tryz.prog.godebug = none:=by kernel_rfl
/-- string(b) of a slice of bytes whose cells are known, in whatever world. -/
theorem conv_bytes (W:World) (b len cap:Nat) (xs:List Int) (hlen:xs.length = len) (hcell:∀ i,i < len->W.cell? ⟨b,i,none⟩ = some (.int .u8 (xs.getD i 0))) :
    (convert 101 9 (.slice (some ⟨b,0,none⟩) len cap)).run Tryz.prog W = .ok (.string (Pl.txt (xs.map fun n=>UInt8.ofNat n.toNat))) W :=
  run_convert_bytes_arg W 101 5 Tryz.underlying101 Tryz.underlying5 b 0 len cap xs hlen (fun i hi=>by rw [Nat.zero_add];exact hcell i hi) 9 Tryz.underlying9
set_option maxHeartbeats 400000 in
theorem byte_any (n:Int) (w:World) :
    Calls Tryz.prog 61 #[.int .i64 n] w fun e w'=>e = .returned (.string (Pl.txt [UInt8.ofNat (n % 256).toNat]))/\Below w.heap.size w w':=by
  have hcv:=conv_bytes (w.alloc (Obj.cells #[Value.int IntKind.u8 (n % 256)] 5)) w.heap.size 1 1 [n % 256] rfl (fun i hi=>by
    obtain rfl:i = 0:=by omega
    simp)
  go_enter Tryz.func61,Tryz.ntmps61
  go_wp2
  go_ret
  exact ⟨rfl,(Below.refl _ _).alloc (Nat.le_refl _) _⟩
set_option maxHeartbeats 400000 in
theorem refNum_any (n size : Int) (w : World) (hn : n ≤ 9223372036854775807) :
    Calls Tryz.prog 59 #[.int .i64 n,.int .i64 size] w fun e w'=>e = .returned (.tuple #[.string (Pl.numOut n size),.int .i64 (Pl.numErr n size)])/\Below w.heap.size w w':=by
  by_cases h1:size < 1
  · have hb : Pl.numBad n size = true := by simp [Pl.numBad, h1]
    have H:Hid (Pl.numOut n size = Pl.txt []/\Pl.numErr n size = 1):=⟨by simp [Pl.numOut,hb],by simp [Pl.numErr,hb]⟩
    clear hb
    go_enter Tryz.func59,Tryz.ntmps59
    go_wp2
    go_ret2
    rw [H.out.1,H.out.2]
    exact ⟨rfl,Below.refl _ _⟩
  by_cases h2:8 < size
  · have hb : Pl.numBad n size = true := by simp [Pl.numBad, h2]
    have H:Hid (Pl.numOut n size = Pl.txt []/\Pl.numErr n size = 1):=⟨by simp [Pl.numOut,hb],by simp [Pl.numErr,hb]⟩
    clear hb
    go_enter Tryz.func59,Tryz.ntmps59
    go_wp2
    go_ret2
    rw [H.out.1,H.out.2]
    exact ⟨rfl,Below.refl _ _⟩
  by_cases h3:n < 0
  · have hb : Pl.numBad n size = true := by simp [Pl.numBad, h3]
    have H:Hid (Pl.numOut n size = Pl.txt []/\Pl.numErr n size = 1):=⟨by simp [Pl.numOut,hb],by simp [Pl.numErr,hb]⟩
    clear hb
    go_enter Tryz.func59,Tryz.ntmps59
    go_wp2
    go_ret2
    rw [H.out.1,H.out.2]
    exact ⟨rfl,Below.refl _ _⟩
  obtain ⟨m,rfl⟩:=Int.eq_ofNat_of_zero_le (show 0<=n by omega)
  obtain ⟨z,rfl⟩:=Int.eq_ofNat_of_zero_le (show 0<=size by omega)
  go_enter Tryz.func59,Tryz.ntmps59
  go_wp2
  go_loopw [0,6,7] (fun t s i wr=>∃ k:Nat,k<=z/\i = .int .i64 k/\t = .int .i64 ((m / 256 ^ k:Nat):Int)/\s = .string (Pl.txt (Pl.digits k m))/\Below w.heap.size w wr) (fun _ _ i _=>z - (intOf i).toNat)
  case atStart=>exact ⟨0,Nat.zero_le _,rfl,by simp,rfl,Below.refl _ _⟩
  case round =>
    obtain ⟨k,hk,rfl,rfl,rfl,hbl⟩:=hrel
    obtain ⟨x,hx⟩:∃ x,m / 256 ^ k = x:=⟨_,rfl⟩
    have hxm:x<=m:=by rw [← hx];exact Nat.div_le_self _ _
    rw [hx]
    have HX:Hid (m / 256 ^ k = x):=hx
    clear hx
    by_cases hlt:k < z
    · go_wp2_with fail
      refine (byte_any _ _).mono ?_
      rintro e w' ⟨rfl,hb'⟩
      have hts:=Pl.txt_size
      have hdl:=Pl.digits_length
      go_wp2
      go_roundw
      case rel =>
        have hm:=HX.out
        refine ⟨k + 1,by omega,by go_num,?_,?_,hbl.trans (hb'.mono hbl.size)⟩
        · have := Pl.div_step m k
          rw [Int.toNat_natCast,hm] at this
          rw [this]
        · rw [Pl.digits_succ,hm,Pl.txt_append];rfl
      case measure=>simp [intOf];omega
    · obtain rfl : k = z := by omega
      by_cases h0:x = 0
      · have hb : Pl.numBad m k = false := by simp [Pl.numBad, HX.out, h0]; omega
        have H:Hid (Pl.numOut m k = Pl.txt (Pl.digits k m)/\Pl.numErr m k = 0):=⟨by simp [Pl.numOut,hb],by simp [Pl.numErr,hb]⟩
        clear hb
        have h0':¬ (0:Int) < (x:Int):=by omega
        have H0:Hid (x = 0):=h0
        clear h0
        go_wp2
        go_ret2
        rw [H.out.1,H.out.2]
        exact ⟨rfl,hbl⟩
      · have hb : Pl.numBad m k = true := by simp [Pl.numBad, HX.out, h0]
        have H:Hid (Pl.numOut m k = Pl.txt []/\Pl.numErr m k = 1):=⟨by simp [Pl.numOut,hb],by simp [Pl.numErr,hb]⟩
        clear hb
        have h0':(0:Int) < (x:Int):=by omega
        go_wp2
        go_ret2
        rw [H.out.1,H.out.2]
        exact ⟨rfl,hbl⟩
theorem info5:(Tryz.prog.info? 5).map (fun i=>(i.zero,i.size,i.bytes)) = some (some (.int .u8 0),1,1):=by kernel_rfl
def numRow (m z r q:Nat):Value:=.int .u8 (if r<=q then (m / 256 ^ (z - 1 - q) % 256:Nat) else 0)
set_option maxHeartbeats 400000 in
theorem num_any (n size : Int) (w : World) (hn : n ≤ 9223372036854775807) :
    Calls Tryz.prog 45 #[.int .i64 n,.int .i64 size] w fun e w'=>e = .returned (.tuple #[.string (Pl.numOut n size),.int .i64 (Pl.numErr n size)])/\Below w.heap.size w w':=by
  by_cases h1:size < 1
  · have hb : Pl.numBad n size = true := by simp [Pl.numBad, h1]
    have H:Hid (Pl.numOut n size = Pl.txt []/\Pl.numErr n size = 1):=⟨by simp [Pl.numOut,hb],by simp [Pl.numErr,hb]⟩
    clear hb
    go_enter Tryz.func45,Tryz.ntmps45
    go_wp2
    go_ret2
    rw [H.out.1,H.out.2]
    exact ⟨rfl,Below.refl _ _⟩
  by_cases h2:8 < size
  · have hb : Pl.numBad n size = true := by simp [Pl.numBad, h2]
    have H:Hid (Pl.numOut n size = Pl.txt []/\Pl.numErr n size = 1):=⟨by simp [Pl.numOut,hb],by simp [Pl.numErr,hb]⟩
    clear hb
    go_enter Tryz.func45,Tryz.ntmps45
    go_wp2
    go_ret2
    rw [H.out.1,H.out.2]
    exact ⟨rfl,Below.refl _ _⟩
  by_cases h3:n < 0
  · have hb : Pl.numBad n size = true := by simp [Pl.numBad, h3]
    have H:Hid (Pl.numOut n size = Pl.txt []/\Pl.numErr n size = 1):=⟨by simp [Pl.numOut,hb],by simp [Pl.numErr,hb]⟩
    clear hb
    go_enter Tryz.func45,Tryz.ntmps45
    go_wp2
    go_ret2
    rw [H.out.1,H.out.2]
    exact ⟨rfl,Below.refl _ _⟩
  obtain ⟨m,rfl⟩:=Int.eq_ofNat_of_zero_le (show 0<=n by omega)
  obtain ⟨z,rfl⟩:=Int.eq_ofNat_of_zero_le (show 0<=size by omega)
  have hmk:=run_make_row' (P:=Tryz.prog) 101 5 (.int .u8 0) 1 Tryz.underlying101 info5 rfl .i64 .i64 z (by omega) (by omega)
  go_enter Tryz.func45,Tryz.ntmps45
  go_wp2
  go_loopw [0,7] (fun t i wr=>∃ r:Nat,r<=z/\i = .int .i64 ((r:Int) - 1)/\t = .int .i64 ((m / 256 ^ (z - r):Nat):Int)/\wr.rowIs w.heap.size 5 z (numRow m z r)/\Below w.heap.size w wr) (fun _ i _=>(intOf i + 1).toNat)
  case atStart =>
    refine ⟨z,Nat.le_refl _,rfl,by simp,(World.rowIs_made w (.int .u8 0) z 5).congr fun q hq=>?_,(Below.refl _ _).alloc (Nat.le_refl _) _⟩
    simp [numRow,Nat.not_le.2 hq]
  case round =>
    obtain ⟨r,hr,rfl,rfl,hrow,hbl⟩:=hrel
    obtain ⟨x,hx⟩:∃ x,m / 256 ^ (z - r) = x:=⟨_,rfl⟩
    have hxm:x<=m:=by rw [← hx];exact Nat.div_le_self _ _
    rw [hx]
    have HX:Hid (m / 256 ^ (z - r) = x):=hx
    clear hx hmk
    match r,hr with
    | j + 1, hr =>
      have hj:((j + 1:Nat):Int) - 1 = (j:Int):=by omega
      rw [hj]
      clear hj
      have hc:=hrow.cell (i:=j) (by omega)
      have hf:=hrow.frozen j
      have H:Hid (wr.rowIs w.heap.size 5 z (numRow m z (j + 1))):=hrow
      clear hrow
      have hjz:j < z:=by omega
      go_wp2
      go_roundw
      case rel =>
        have hm:=HX.out
        refine ⟨j,by omega,rfl,?_,(H.out.set j _).congr fun q hq=>?_,hbl.setCell (Nat.le_refl _) _⟩
        · have := Pl.div_step m (z - (j + 1))
          rw [Int.toNat_natCast,hm] at this
          rw [this,show z - (j + 1) + 1 = z - j from by omega]
        · unfold numRow
          by_cases hq1:q = j
          · subst hq1
            rw [if_pos rfl,if_pos (Nat.le_refl _),show z - 1 - q = z - (q + 1) from by omega,hm]
            simp
          · rw [if_neg hq1]
            by_cases hq2:j<=q
            · rw [if_pos hq2,if_pos (by omega)]
            · rw [if_neg hq2,if_neg (by omega)]
      case measure=>simp [intOf]
    | 0, hr =>
      have hz0:z - 0 = z:=by omega
      by_cases h0:x = 0
      · have hb : Pl.numBad m z = false := by
          have:=HX.out
          rw [hz0] at this
          simp [Pl.numBad,this,h0];omega
        have H:Hid (Pl.numOut m z = Pl.txt (Pl.digits z m)/\Pl.numErr m z = 0):=⟨by simp [Pl.numOut,hb],by simp [Pl.numErr,hb]⟩
        clear hb
        have hcv:=conv_bytes wr w.heap.size z z ((List.range z).map fun q=>((m / 256 ^ (z - 1 - q) % 256:Nat):Int)) (by simp) (fun i hi=>by
          rw [hrow.cell hi]
          simp [numRow,hi,List.getD])
        rw [show List.map (fun n:Int=>UInt8.ofNat n.toNat) ((List.range z).map fun q=>((m / 256 ^ (z - 1 - q) % 256:Nat):Int)) = Pl.digits z m from by simp only [List.map_map,Pl.digits];exact List.map_congr_left fun q _=>by simp only [Function.comp,Int.toNat_natCast]] at hcv
        have h0':((x:Int) != 0) = false:=by simp [h0]
        have H0:Hid (x = 0):=h0
        clear h0
        go_wp2
        go_ret2
        rw [H.out.1,H.out.2]
        exact ⟨rfl,hbl⟩
      · have hb : Pl.numBad m z = true := by
          have:=HX.out
          rw [hz0] at this
          simp [Pl.numBad,this,h0]
        have H:Hid (Pl.numOut m z = Pl.txt []/\Pl.numErr m z = 1):=⟨by simp [Pl.numOut,hb],by simp [Pl.numErr,hb]⟩
        clear hb
        have h0':((x:Int) != 0) = true:=by simp [h0]
        go_wp2
        go_ret2
        rw [H.out.1,H.out.2]
        exact ⟨rfl,hbl⟩
end Go.Proofs.YtggoccfddnpelaaGreat.Ks
namespace Go.Proofs.YtggoccfddnpelaaGreat.Ks.Rs
open Go.ChangeShapes Go.WideShapes Go.ChangeAt Go.RowKit Go.Deep
set_option maxRecDepth 100000
open Go.Proofs.YtggoccfddnpelaaGreat.Ks.Ak
/-- Any world grown from w. -/
structure Grw (w:World) where
  out:World
  grown:w.grownBy out none
theorem grw_some (w:World):Nonempty (Grw w):=⟨⟨w,grown_refl _ _⟩⟩
/-- A region that only reads, and whose callees read and lay blocks of their own, walked once. -/
theorem wp_region_grw {P:Program} {id:Nat} {Q:Exit->Act->World->Prop} {a:Act} {w:World} {l:List Oper} (hm:P.follows .mixedOrders = true) (hB:Region.lexB .any l.toArray = true)
    (h:wpQuiet P l.toArray (fun w'=>∃ p:Grw w,w' = p.out) (fun a'=>∀ w',(∃ p:Grw w,w' = p.out)->Q .normal a' w') l a):(Code.region id l.toArray true).wp P Q a w :=
  wp_region_quiet (C:=fun w'=>∃ p:Grw w,w' = p.out) hm hB ⟨⟨w.drew,⟨rfl,rfl,rfl,Nat.le_refl _,fun _ _ _=>rfl⟩⟩,rfl⟩ (by simpa using h)
theorem calls_grw {P:Program} {f:FuncId} {args:Array Value} {w W:World} {v:Value} (hg:w.grownBy W none)
    (h:Calls P f args W fun e w'=>e = .returned v/\Below W.heap.size W w'):Calls P f args W fun e w''=>e = .returned v/\∃ p:Grw w,w'' = p.out :=
  h.mono fun _ w' ⟨he,hw⟩=>⟨he,⟨w',grown_trans hg (grown_of_below hw none)⟩,rfl⟩
theorem Grw.below {w:World} (p:Grw w):Below w.heap.size w p.out:=below_none p.grown (Nat.le_refl _)
theorem cell_lt {w:World} {b j:Nat} {v:Value} (h:w.cell? ⟨b,j,none⟩ = some v):b < w.heap.size:=by
  rcases Nat.lt_or_ge b w.heap.size with h' | h'
  · exact h'
  · simp [World.cell?,Array.getElem?_eq_none h'] at h
theorem cell_step {w w':World} {b j:Nat} {v:Value} (h:w.cell? ⟨b,j,none⟩ = some v) (hb:Below w.heap.size w w'):w'.cell? ⟨b,j,none⟩ = some v:=(hb.cell (p:=⟨b,j,none⟩) (cell_lt h)).trans h
theorem Grw.cell {w:World} (p:Grw w) {b j:Nat} {v:Value} (h:w.cell? ⟨b,j,none⟩ = some v):p.out.cell? ⟨b,j,none⟩ = some v:=cell_step h p.below
theorem block_lt {w:World} {b:Nat} {o:Obj} (h:w.heap[b]? = some o):b < w.heap.size:=by
  rcases Nat.lt_or_ge b w.heap.size with h' | h'
  · exact h'
  · rw [Array.getElem?_eq_none h'] at h;cases h
theorem block_step {w w':World} {b:Nat} {o:Obj} (h:w.heap[b]? = some o) (hb:Below w.heap.size w w'):w'.heap[b]? = some o:=(hb.block b (block_lt h)).trans h
abbrev VH (no gen:Int):Value:=.agg #[.int .i64 no,.int .i64 gen]
abbrev BH (no gen:Int):Obj:=.cells #[.int .i64 no,.int .i64 gen] 55
theorem two_of {w:World} {b:Nat} {x y:Int} (h:w.heap[b]? = some (BH x y)):w.cell? ⟨b,0,none⟩ = some (.int .i64 x)/\w.cell? ⟨b,1,none⟩ = some (.int .i64 y):=by
  refine ⟨?_,?_⟩ <;> simp [World.cell?,h]
end Go.Proofs.YtggoccfddnpelaaGreat.Ks.Rs
namespace Go.Proofs.YtggoccfddnpelaaGreat.Ks
open Go.ChangeShapes Go.WideShapes Go.ChangeAt Go.RowKit Go.Deep
set_option maxRecDepth 100000
theorem head_at (s:ByteArray) (h:0 < s.size):(s.data.toList.headD 0) = s[0]:=by
  have h2:0 < s.data.toList.length:=by simpa using h
  match hl:s.data.toList,h2 with
  | b :: r, _ =>
    have:s.data.toList[0]'(by simpa using h) = b:=by simp [hl]
    simp only [List.headD_cons]
    rw [← this]
    rfl
set_option maxHeartbeats 1000000 in
theorem refNumber_any (s : ByteArray) (w : World) (hs : s.size ≤ maxLen) :
    Calls Tryz.prog 32 #[.string s] w fun e w'=>e = .returned (.tuple #[.int .i64 (Pl.numVal s),.int .i64 (Pl.numberErr s)])/\w' = w:=by
  unfold maxLen at hs
  by_cases h1:s.size < 1
  · have H : Hid (Pl.numVal s = 0 ∧ Pl.numberErr s = 1) := ⟨by simp [Pl.numVal, Pl.sNum, h1], by simp [Pl.numberErr, Pl.sNum, h1]⟩
    go_enter Tryz.func32,Tryz.ntmps32
    go_wp2
    go_ret2
    rw [H.out.1,H.out.2]
    exact ⟨rfl,rfl⟩
  by_cases h2:8 < s.size
  · have H : Hid (Pl.numVal s = 0 ∧ Pl.numberErr s = 1) := ⟨by simp [Pl.numVal, Pl.sNum, h2], by simp [Pl.numberErr, Pl.sNum, h2]⟩
    go_enter Tryz.func32,Tryz.ntmps32
    go_wp2
    go_ret2
    rw [H.out.1,H.out.2]
    exact ⟨rfl,rfl⟩
  have hS:Pl.sNum s = false:=by simp only [Pl.sNum,decide_eq_false_iff_not];omega
  have hp:0 < s.size:=by omega
  have hd:=head_at s hp
  by_cases h8:s.size = 8
  · by_cases h9 : 128 ≤ (s[0]'hp).toNat
    · have hF : Pl.fNum s = true := by simp only [Pl.fNum, hd]; simp [h8, h9]
      have H:Hid (Pl.numVal s = 0/\Pl.numberErr s = 4):=⟨by simp [Pl.numVal,hF],by simp [Pl.numberErr,hS,hF]⟩
      clear hF hS hd
      have e8:((s.size:Int) == 8) = true:=by simp [h8]
      have h9':(127:Int) < ((s[0]'hp).toNat:Int):=by omega
      clear h8
      go_enter Tryz.func32,Tryz.ntmps32
      go_wp2
      go_ret2
      rw [H.out.1,H.out.2]
      exact ⟨rfl,rfl⟩
    · have hF : Pl.fNum s = false := by simp only [Pl.fNum, hd]; simp; omega
      have e8:((s.size:Int) == 8) = true:=by simp [h8]
      have h9':¬ (127:Int) < ((s[0]'hp).toNat:Int):=by omega
      have hT:=Pl.numOf_take_lt s.data.toList
      have hlen:s.data.toList.length = s.size:=by simp
      have HT:Hid (∀ k,k < s.size->Pl.numOf (s.data.toList.take k) < 36028797018963968):=fun k hk=>hT k (by omega) (by rw [hlen,hd];omega) (by omega)
      clear hT hlen
      have H:Hid (Pl.numVal s = Pl.numOf s.data.toList/\Pl.numberErr s = 0):=⟨by simp [Pl.numVal,hS,hF],by simp [Pl.numberErr,hS,hF]⟩
      clear hF hS hd
      clear h8
      go_enter Tryz.func32,Tryz.ntmps32
      go_wp2
      go_loop [4,5] (fun t i=>∃ k:Nat,k<=s.size/\i = .int .i64 k/\t = .int .i64 (Pl.numOf (s.data.toList.take k))) (fun _ i=>s.size - (intOf i).toNat)
      case atStart=>exact ⟨0,Nat.zero_le _,rfl,rfl⟩
      case round =>
        obtain ⟨k,hk,rfl,rfl⟩:=hrel
        by_cases hlt:k < s.size
        · have HS : Hid (Pl.numOf (s.data.toList.take (k + 1)) = 256 * Pl.numOf (s.data.toList.take k) + (s[k]'hlt).toNat) := Pl.numOf_take_succ s k hlt
          have hx:=HT.out k hlt
          generalize Pl.numOf (s.data.toList.take k) = x at *
          have hby:=(s[k]'hlt).toNat_lt
          go_wp2
          go_round
          case rel =>
            refine ⟨k + 1,by omega,by go_num,?_⟩
            rw [HS.out]
            go_num
          case measure=>simp [intOf];omega
        · obtain rfl : k = s.size := by omega
          rw [List.take_of_length_le (by simp)]
          go_wp2
          go_ret2
          rw [H.out.1,H.out.2]
          exact ⟨rfl,rfl⟩
  · have hF : Pl.fNum s = false := by simp [Pl.fNum, h8]
    have e8:((s.size:Int) == 8) = false:=by simp;omega
    have hT:=Pl.numOf_take_lt s.data.toList
    have hlen:s.data.toList.length = s.size:=by simp
    have HT:Hid (∀ k,k < s.size->Pl.numOf (s.data.toList.take k) < 36028797018963968):=fun k hk=>hT k (by omega) (by rw [hlen,hd];omega) (by omega)
    clear hT hlen
    have H:Hid (Pl.numVal s = Pl.numOf s.data.toList/\Pl.numberErr s = 0):=⟨by simp [Pl.numVal,hS,hF],by simp [Pl.numberErr,hS,hF]⟩
    clear hF hS hd
    clear h8
    go_enter Tryz.func32,Tryz.ntmps32
    go_wp2
    go_loop [4,5] (fun t i=>∃ k:Nat,k<=s.size/\i = .int .i64 k/\t = .int .i64 (Pl.numOf (s.data.toList.take k))) (fun _ i=>s.size - (intOf i).toNat)
    case atStart=>exact ⟨0,Nat.zero_le _,rfl,rfl⟩
    case round =>
      obtain ⟨k,hk,rfl,rfl⟩:=hrel
      by_cases hlt:k < s.size
      · have HS : Hid (Pl.numOf (s.data.toList.take (k + 1)) = 256 * Pl.numOf (s.data.toList.take k) + (s[k]'hlt).toNat) := Pl.numOf_take_succ s k hlt
        have hx:=HT.out k hlt
        generalize Pl.numOf (s.data.toList.take k) = x at *
        have hby:=(s[k]'hlt).toNat_lt
        go_wp2
        go_round
        case rel =>
          refine ⟨k + 1,by omega,by go_num,?_⟩
          rw [HS.out]
          go_num
        case measure=>simp [intOf];omega
      · obtain rfl : k = s.size := by omega
        rw [List.take_of_length_le (by simp)]
        go_wp2
        go_ret2
        rw [H.out.1,H.out.2]
        exact ⟨rfl,rfl⟩
set_option maxHeartbeats 1000000 in
theorem number_any (s : ByteArray) (w : World) (hs : s.size ≤ maxLen) :
    Calls Tryz.prog 48 #[.string s] w fun e w'=>e = .returned (.tuple #[.int .i64 (Pl.numVal s),.int .i64 (Pl.numberErr s)])/\w' = w:=by
  unfold maxLen at hs
  by_cases h1:s.size < 1
  · have H : Hid (Pl.numVal s = 0 ∧ Pl.numberErr s = 1) := ⟨by simp [Pl.numVal, Pl.sNum, h1], by simp [Pl.numberErr, Pl.sNum, h1]⟩
    go_enter Tryz.func48,Tryz.ntmps48
    go_wp2
    go_ret2
    rw [H.out.1,H.out.2]
    exact ⟨rfl,rfl⟩
  by_cases h2:8 < s.size
  · have H : Hid (Pl.numVal s = 0 ∧ Pl.numberErr s = 1) := ⟨by simp [Pl.numVal, Pl.sNum, h2], by simp [Pl.numberErr, Pl.sNum, h2]⟩
    go_enter Tryz.func48,Tryz.ntmps48
    go_wp2
    go_ret2
    rw [H.out.1,H.out.2]
    exact ⟨rfl,rfl⟩
  have hS:Pl.sNum s = false:=by simp only [Pl.sNum,decide_eq_false_iff_not];omega
  have hp:0 < s.size:=by omega
  have hd:=head_at s hp
  by_cases h8:s.size = 8
  · by_cases h9 : 128 ≤ (s[0]'hp).toNat
    · have hF : Pl.fNum s = true := by simp only [Pl.fNum, hd]; simp [h8, h9]
      have H:Hid (Pl.numVal s = 0/\Pl.numberErr s = 4):=⟨by simp [Pl.numVal,hF],by simp [Pl.numberErr,hS,hF]⟩
      clear hF hS hd
      have e8:((s.size:Int) == 8) = true:=by simp [h8]
      have h9':(128:Int)<=((s[0]'hp).toNat:Int):=by omega
      clear h8
      go_enter Tryz.func48,Tryz.ntmps48
      go_wp2
      go_ret2
      rw [H.out.1,H.out.2]
      exact ⟨rfl,rfl⟩
    · have hF : Pl.fNum s = false := by simp only [Pl.fNum, hd]; simp; omega
      have e8:((s.size:Int) == 8) = true:=by simp [h8]
      have h9':¬ (128:Int)<=((s[0]'hp).toNat:Int):=by omega
      have hT:=Pl.numOf_take_lt s.data.toList
      have hlen:s.data.toList.length = s.size:=by simp
      have HT:Hid (∀ k,k < s.size->Pl.numOf (s.data.toList.take k) < 36028797018963968):=fun k hk=>hT k (by omega) (by rw [hlen,hd];omega) (by omega)
      clear hT hlen
      have H:Hid (Pl.numVal s = Pl.numOf s.data.toList/\Pl.numberErr s = 0):=⟨by simp [Pl.numVal,hS,hF],by simp [Pl.numberErr,hS,hF]⟩
      clear hF hS hd
      clear h8
      go_enter Tryz.func48,Tryz.ntmps48
      go_wp2
      go_loop [4,24] (fun t i=>∃ k:Nat,k<=s.size/\i = .int .i64 k/\t = .int .i64 (Pl.numOf (s.data.toList.take k))) (fun _ i=>s.size - (intOf i).toNat)
      case atStart=>exact ⟨0,Nat.zero_le _,rfl,rfl⟩
      case round =>
        obtain ⟨k,hk,rfl,rfl⟩:=hrel
        by_cases hlt:k < s.size
        · have HS : Hid (Pl.numOf (s.data.toList.take (k + 1)) = 256 * Pl.numOf (s.data.toList.take k) + (s[k]'hlt).toNat) := Pl.numOf_take_succ s k hlt
          have hx:=HT.out k hlt
          generalize Pl.numOf (s.data.toList.take k) = x at *
          have hby:=(s[k]'hlt).toNat_lt
          have hor:=Pl.or_byte x (s[k]'hlt) hx
          go_wp2
          go_round
          case rel =>
            refine ⟨k + 1,by omega,by go_num,?_⟩
            rw [HS.out]
            go_num
          case measure=>simp [intOf];omega
        · obtain rfl : k = s.size := by omega
          rw [List.take_of_length_le (by simp)]
          go_wp2
          go_ret2
          rw [H.out.1,H.out.2]
          exact ⟨rfl,rfl⟩
  · have hF : Pl.fNum s = false := by simp [Pl.fNum, h8]
    have e8:((s.size:Int) == 8) = false:=by simp;omega
    have hT:=Pl.numOf_take_lt s.data.toList
    have hlen:s.data.toList.length = s.size:=by simp
    have HT:Hid (∀ k,k < s.size->Pl.numOf (s.data.toList.take k) < 36028797018963968):=fun k hk=>hT k (by omega) (by rw [hlen,hd];omega) (by omega)
    clear hT hlen
    have H:Hid (Pl.numVal s = Pl.numOf s.data.toList/\Pl.numberErr s = 0):=⟨by simp [Pl.numVal,hS,hF],by simp [Pl.numberErr,hS,hF]⟩
    clear hF hS hd
    clear h8
    go_enter Tryz.func48,Tryz.ntmps48
    go_wp2
    go_loop [4,24] (fun t i=>∃ k:Nat,k<=s.size/\i = .int .i64 k/\t = .int .i64 (Pl.numOf (s.data.toList.take k))) (fun _ i=>s.size - (intOf i).toNat)
    case atStart=>exact ⟨0,Nat.zero_le _,rfl,rfl⟩
    case round =>
      obtain ⟨k,hk,rfl,rfl⟩:=hrel
      by_cases hlt:k < s.size
      · have HS : Hid (Pl.numOf (s.data.toList.take (k + 1)) = 256 * Pl.numOf (s.data.toList.take k) + (s[k]'hlt).toNat) := Pl.numOf_take_succ s k hlt
        have hx:=HT.out k hlt
        generalize Pl.numOf (s.data.toList.take k) = x at *
        have hby:=(s[k]'hlt).toNat_lt
        have hor:=Pl.or_byte x (s[k]'hlt) hx
        go_wp2
        go_round
        case rel =>
          refine ⟨k + 1,by omega,by go_num,?_⟩
          rw [HS.out]
          go_num
        case measure=>simp [intOf];omega
      · obtain rfl : k = s.size := by omega
        rw [List.take_of_length_le (by simp)]
        go_wp2
        go_ret2
        rw [H.out.1,H.out.2]
        exact ⟨rfl,rfl⟩
end Go.Proofs.YtggoccfddnpelaaGreat.Ks
