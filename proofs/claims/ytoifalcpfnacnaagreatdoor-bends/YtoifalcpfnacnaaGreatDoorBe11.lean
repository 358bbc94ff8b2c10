import Derived.BigQuiet
import Derived.Test.YtoifalcpfnacnaaGreatDoorBe10
namespace Go.Proofs.YtoifalcpfnacnaaGreatDoor
open Go.RowKit
def nonL (n j:Nat):List UInt8:=List.replicate (11-j) 0++Ref.nb n j++[0]
theorem nonL_len (n j:Nat) (h:j≤11):(nonL n j).length=12:=by unfold nonL;simp[Ref.nb_len];omega
theorem nonL_set (n j:Nat) (h:j<11):(nonL n j).set (10-j) (UInt8.ofNat (n/256 ^ j%256))=nonL n (j+1):=by
 unfold nonL
 rw[show 11-j=(10-j)+1 by omega,List.replicate_succ',List.append_assoc,List.append_assoc,List.set_append_right _ _ (by simp),List.length_replicate,Nat.sub_self,show 11-(j+1)=10-j by omega,List.append_assoc]
 rfl
theorem nonL_8 (n:Nat) (h:n<18446744073709551616):nonL n 8=Ref.nonce n false:=by
 unfold Ref.nonce nonL
 rw[Ref.nb_11 n h]
 rfl
theorem nonL_last (n:Nat) (h:n<18446744073709551616):(nonL n 8).set 11 1=Ref.nonce n true:=by
 rw[nonL_8 n h]
 unfold Ref.nonce
 rw[List.set_append_right _ _ (by rw[Ref.nb_len];exact Nat.le_refl _),Ref.nb_len]
 rfl
theorem shr8 (n j:Nat):((n/256 ^ j:Nat):Int)/2 ^ 8=((n/256 ^ (j+1):Nat):Int):=by
 rw[Nat.pow_succ,←Nat.div_div_eq_div_mul]
 omega
theorem byte_mod (q:Nat):((q:Nat):Int)%256=(((UInt8.ofNat (q%256)).toNat:Nat):Int):=by
 simp
set_option maxRecDepth 100000 in
set_option maxHeartbeats 1600000 in
theorem knonce_any (n:Nat) (last:Bool) (w:World) (hn:n≤1125899906842624):
  Calls Tryz.prog 74 #[.int .i64 (n:Nat),.bool last] w fun e w'=>e = .returned (.string ⟨(Ref.nonce n last).toArray⟩)∧Below w.heap.size w w':=by
 have hmk:(Instr.makeSlice 67 (.int .i64 12) (.int .i64 12)).run Tryz.prog w = .ok (.slice (some ⟨w.heap.size,0,none⟩) 12 12) (w.alloc (.cells (u8L (List.replicate 12 0)).toArray 5)):=make_bytes 12 (by decide) w
 have hB:Blk (w.alloc (.cells (u8L (List.replicate 12 0)).toArray 5)) w.heap.size 5 (u8L (nonL n 0)):=Blk.new rfl rfl
 have hbe:Below w.heap.size w (w.alloc (.cells (u8L (List.replicate 12 0)).toArray 5)):=(Below.refl _ _).alloc (Nat.le_refl _) _
 have H0:=hide (And.intro hB hbe)
 clear hB hbe
 go_enter Tryz.func74,Tryz.ntmps74
 go_wp2
 clear hmk
 go_loopw [0,6] (fun vn vi wr=>∃ j:Nat,j≤8∧vn = .int .i64 ((n/256 ^ j:Nat):Int)∧vi = .int .i64 (10-(j:Int))∧Blk wr w.heap.size 5 (u8L (nonL n j))∧Below w.heap.size w wr) (fun _ vi _=>(intOf vi+1).toNat)
 case atStart=>exact ⟨0,by decide,by simp,rfl,H0.out.1,H0.out.2⟩
 case round=>
  clear H0
  obtain ⟨j,hj,rfl,rfl,hB,hbe⟩:=hrel
  have HB:=hide hB
  have HBE:=hide hbe
  obtain ⟨i,hi⟩:∃ i:Nat,i+j=10:=⟨10-j,by omega⟩
  have ti:(10:Int)-(j:Int)=(i:Int):=by omega
  rw[ti]
  have hlen:=nonL_len n j (by omega)
  by_cases hlt:j<8
  ·have jl:(3:Int)≤(i:Int):=by omega
   obtain ⟨q,hq⟩:∃ q:Nat,q=n/256 ^ j:=⟨_,rfl⟩
   obtain ⟨q2,hq2⟩:∃ q:Nat,q=n/256 ^ (j+1):=⟨_,rfl⟩
   have tq:(q:Int)/2 ^ 8=(q2:Int):=by rw[hq,hq2];exact shr8 n j
   have HTQ:=hide (show (q:Int)/256=(q2:Int) from tq)
   have ib:(i:Int)<12:=by omega
   have ib2:i<12:=by omega
   have hqb:q≤1125899906842624:=by rw[hq];exact Nat.le_trans (Nat.div_le_self _ _) hn
   obtain ⟨X,hX⟩:∃ X:UInt8,X=UInt8.ofNat (q%256):=⟨_,rfl⟩
   have tX:(q:Int)%256=((X.toNat:Nat):Int):=by rw[hX];exact byte_mod q
   obtain ⟨v0,hv0⟩:∃ v,(u8L (nonL n j))[i]? = some v:=⟨_,List.getElem?_eq_getElem (by unfold u8L;rw[List.length_map,hlen];omega)⟩
   have c0:=hB.cell hv0
   have f0:=hB.frozen i
   have HNX:=hide (show (u8L (nonL n j)).set i (.int .u8 ((X.toNat:Nat):Int))=u8L (nonL n (j+1)) by rw[←u8L_set,hX,hq,show i=10-j by omega,nonL_set n j (by omega)])
   rw[←hq]
   have HQ2:=hide hq2
   have HI:=hide (And.intro hi hlt)
   clear hB hbe hv0 hq hq2 hX hlen ti hi hlt hj
   go_wp2
   go_roundw
   case rel=>
    obtain ⟨h1,h2⟩:=HI.out
    refine ⟨j+1,by omega,by rw[HTQ.out,HQ2.out],by congr 1;omega,?_,HBE.out.setCell (by simp) _⟩
    rw[←HNX.out]
    exact HB.out.setCell_same i _
   case measure=>obtain ⟨h1,h2⟩:=HI.out;simp[intOf] <;> omega
  ·obtain rfl:j=8:=by omega
   obtain rfl:i=2:=by omega
   have hB8:=hB
   cases last with
   | false=>
    rw[nonL_8 n (by omega)] at hB8
    have hR:Row wr w.heap.size 5 1 (.slice (some ⟨w.heap.size,0,none⟩) 12 12) 12 (u8L (Ref.nonce n false)):=by
     have h:=Row.newB hB8 (Nat.le_refl _) (by rw[Ref.nonce_len];decide)
     rw[Ref.nonce_len] at h
     exact h
    obtain ⟨ao,cap,h1,h2,h3,hcv⟩:=Row.strAny hR
    clear hB hbe hB8 hR h1 h2 h3 hlen
    go_wp2
    go_ret
    exact ⟨rfl,HBE.out⟩
   | true=>
    obtain ⟨v0,hv0⟩:∃ v,(u8L (nonL n 8))[11]? = some v:=⟨_,List.getElem?_eq_getElem (by unfold u8L;rw[List.length_map,hlen];decide)⟩
    have c0:=hB.cell hv0
    have f0:=hB.frozen 11
    have hB9:=hB.setCell_same 11 (.int .u8 1)
    rw[show (u8L (nonL n 8)).set 11 (.int .u8 1)=u8L (Ref.nonce n true) by rw[←nonL_last n (by omega),u8L_set];rfl] at hB9
    have hR:Row (wr.setCell ⟨w.heap.size,11,none⟩ (.int .u8 1)) w.heap.size 5 1 (.slice (some ⟨w.heap.size,0,none⟩) 12 12) 12 (u8L (Ref.nonce n true)):=by
     have h:=Row.newB hB9 (Nat.le_refl _) (by rw[Ref.nonce_len];decide)
     rw[Ref.nonce_len] at h
     exact h
    obtain ⟨ao,cap,h1,h2,h3,hcv⟩:=Row.strAny hR
    have HE:=hide (HBE.out.setCell (p:=⟨w.heap.size,11,none⟩) (Nat.le_refl _) (.int .u8 1))
    clear hB hbe hB9 hB8 hR h1 h2 h3 hlen hv0
    go_wp2
    go_ret
    exact ⟨rfl,HE.out⟩
theorem sealAt (key nn t:ByteArray) (w:World) (hk:key.size=32) (hn:nn.size=12) (ht:t.size≤1099511627):
  Calls Tryz.prog 53 #[.string key,.string nn,.string ⟨#[]⟩,.string t] w fun e w'=>e = .returned (.tuple #[.string ⟨(Box.sealed key.data.toList nn.data.toList [] t.data.toList).toArray⟩,.int .i64 0])∧Below w.heap.size w w':=by
 have h:=pseal_ok key nn ⟨#[]⟩ t w (by decide) ht
 unfold ansV Box.sealAns at h
 rw[if_neg (by rw[hk,hn];decide)] at h
 exact h
def fileCells (vm:Value) (text d b:ByteArray) (top:Int) (key:ByteArray) (vb:Value):List Value:=[vm,.string text,.string d,.string b,.int .i64 top,.string key,vb]
theorem want_nums (N:Nat) (h:N≤268435456):∃ W:Nat,((N:Int)+16-1).tdiv 16=(W:Int)∧((N:Int)+15)/16=(W:Int)∧(if W=0 then 1 else W)=Ref.full N+1:=by
 refine ⟨(N+15)/16,?_,?_,?_⟩
 ·rw[Int.tdiv_eq_ediv_of_nonneg (by omega)];omega
 ·omega
 ·unfold Ref.full;split <;> omega
structure FSt (w:World) (fb:Nat) (vm:Value) (text d b:ByteArray) (top:Int) (key:ByteArray) (vb:Value) (bl:List ByteArray) (wi:World):Prop where
 blk:Blk wi fb 27 (fileCells vm text d b top key vb)
 strs:Strs wi vb bl
 be:Below w.heap.size w wi
theorem FSt.after {w:World} {fb:Nat} {vm:Value} {text d b:ByteArray} {top:Int} {key:ByteArray} {vb:Value} {bl:List ByteArray} {wi wj:World} (h:FSt w fb vm text d b top key vb bl wi) (hb:Below wi.heap.size wi wj):FSt w fb vm text d b top key vb bl wj:=
 ⟨h.blk.below hb h.blk.lt,h.strs.after hb,h.be.trans (hb.mono h.be.size)⟩
set_option maxRecDepth 100000 in
set_option maxHeartbeats 1600000 in
theorem fsealed_any (fb:Nat) (vm vb:Value) (text d b key:ByteArray) (top:Int) (bl:List ByteArray) (w:World) (hB:Blk w fb 27 (fileCells vm text d b top key vb)) (hs:Strs w vb bl) (hk:key.size=32) (hx:text.size≤268435456) (hl:bl.length=Ref.full text.size+1)
  (hbl:∀ i,i<bl.length→bl.getD i ⟨#[]⟩=⟨(Ref.box key.data.toList i (decide (i+1=bl.length)) (Ref.chunkL text.data.toList i)).toArray⟩):
  Calls Tryz.prog 56 #[.pointer (some ⟨fb,0,none⟩)] w fun e w'=>e = .returned (.bool true)∧Below w.heap.size w w':=by
 have c1:=hB.cell (i:=1) rfl
 have c6:=hB.cell (i:=6) rfl
 have HB:=hide hB
 have HS:=hide hs
 have HBL:=hide hbl
 have HK:=hide hk
 obtain ⟨ao,cp,rfl⟩:=hs.len
 obtain ⟨N,hN⟩:∃ N:Nat,text.size=N:=⟨_,rfl⟩
 obtain ⟨W,t1,t2,t3⟩:=want_nums N (by omega)
 obtain ⟨n,hn⟩:∃ n:Nat,bl.length=n:=⟨_,rfl⟩
 have HNN:=hide hn
 rw[hn] at hl c6
 have HNX:=hide hN
 rw[hN] at hl
 have hnb:n≤268435457:=by rw[hl];unfold Ref.full;omega
 have hfl:fb<w.heap.size:=hB.lt
 have hWn:(if W=0 then 1 else W)=n:=by rw[t3,hl]
 have hn0:0<n:=by omega
 obtain ⟨n1,hn1⟩:∃ n1:Nat,n1+1=n:=⟨n-1,by omega⟩
 have tn:(n:Int)-1=(n1:Int):=by omega
 have HN1:=hide hn1
 clear hB hs hbl hk hn hl t3 hn1
 have H0:=hide (show FSt w fb vm text d b top key (.slice ao n cp) bl w from ⟨by rw[←HNN.out];exact HB.out,by rw[←HNN.out];exact HS.out,Below.refl _ _⟩)
 by_cases hW:W=0
 ·subst hW
  have hn':n=1:=by rw[if_pos rfl] at hWn;omega
  subst hn'
  clear hWn
  go_enter Tryz.func56,Tryz.ntmps56
  go_wp2
  clear c1 c6
  go_loopw [5] (fun v wr=>∃ i:Nat,i≤1∧v = .int .i64 (i:Nat)∧FSt w fb vm text d b top key (.slice ao 1 cp) bl wr) (fun v _=>1-(intOf v).toNat)
  case atStart=>exact ⟨0,Nat.zero_le _,rfl,H0.out⟩
  case round=>
   clear H0
   obtain ⟨i,hi,rfl,hF⟩:=hrel
   have HF:=hide hF
   clear hF
   by_cases hlt:i<1
   ·have jl:(i:Int)<(1:Int):=by omega
    obtain ⟨lb,hlb⟩:∃ lb,decide (i+1=1)=lb:=⟨_,rfl⟩
    have zi:((i:Int)==(n1:Int))=lb:=by
     have:=HN1.out
     rw[←hlb]
     by_cases h:i+1=1
     ·rw[decide_eq_true h,beq_iff_eq];omega
     ·rw[decide_eq_false h,beq_eq_false_iff_ne];omega
    have zi2:decide (i=n1)=lb:=by
     have:=HN1.out
     rw[←hlb]
     by_cases h:i+1=1
     ·rw[decide_eq_true h,decide_eq_true (by omega)]
     ·rw[decide_eq_false h,decide_eq_false (by omega)]
    have zi3:(i==n1)=lb:=by rw[←zi2];rfl
    have zi4:((i:Int)==0)=lb:=by
     have h1:=HN1.out
     rw[←hlb,decide_eq_true (by omega),beq_iff_eq]
     omega
    have hbx:=HBL.out i (by rw[HNN.out];exact hlt)
    rw[HNN.out,hlb] at hbx
    have HKN:=hide (fun w=>knonce_any i lb w (by omega))
    have HCH:=hide (fun w=>chunk_any text i w (by omega) (by omega))
    have hcl:(Ref.chunkL text.data.toList i).length≤16:=by unfold Ref.chunkL;rw[List.length_take];omega
    have HSE:=hide (fun w=>sealAt key ⟨(Ref.nonce i lb).toArray⟩ ⟨(Ref.chunkL text.data.toList i).toArray⟩ w HK.out (by rw[two_size,Ref.nonce_len]) (by rw[two_size];omega))
    rw[two_toList,two_toList] at HSE
    have hbq:Ref.box key.data.toList i lb (Ref.chunkL text.data.toList i)=Box.sealed key.data.toList (Ref.nonce i lb) [] (Ref.chunkL text.data.toList i):=by unfold Ref.box;rw[if_pos (by rw[ba_len,HK.out])]
    rw[hbq] at hbx
    have HBX:=hide hbx
    generalize (⟨(Box.sealed key.data.toList (Ref.nonce i lb) [] (Ref.chunkL text.data.toList i)).toArray⟩:ByteArray)=SB at *
    generalize (⟨(Ref.nonce i lb).toArray⟩:ByteArray)=nn at *
    generalize (⟨(Ref.chunkL text.data.toList i).toArray⟩:ByteArray)=cc at *
    have HLT:=hide hlt
    clear hbx hbq hcl hlt hlb
    go_wp2_with fail
    refine (HKN.out _).mono ?_
    rintro e w1 ⟨rfl,be1⟩
    have F1:=hide (HF.out.after be1)
    have c1:=F1.out.blk.cell (i:=1) rfl
    clear HKN be1 HF zi zi2 zi3 zi4
    go_wp2_with fail
    refine (HCH.out _).mono ?_
    rintro e w2 ⟨rfl,rfl⟩
    have c5:=F1.out.blk.cell (i:=5) rfl
    clear HCH c1
    go_wp2_with fail
    refine (HSE.out _).mono ?_
    rintro e w3 ⟨rfl,be3⟩
    have F3:=hide (F1.out.after be3)
    have c6:=F3.out.blk.cell (i:=6) rfl
    obtain ⟨g,o,c,hv1,hgl,e1⟩:=F3.out.strs.at i (by rw[HNN.out];exact HLT.out)
    injection hv1 with hv1 hv1n hv1c
    clear hv1n
    subst hv1
    subst hv1c
    rw[HBX.out] at e1
    clear HSE be3 F1 c5
    go_wp2
    go_roundw
    case rel=>exact ⟨i+1,HLT.out,by go_num,F3.out⟩
    case measure=>have:=HLT.out;simp[intOf];omega
   ·have jl:¬ (i:Int)<(1:Int):=by omega
    go_wp2
    go_ret
    exact ⟨rfl,HF.out.be⟩
 ·rw[if_neg hW] at hWn
  subst hWn
  have zW:((W:Int)==0)=false:=beq_eq_false_iff_ne.2 (by omega)
  go_enter Tryz.func56,Tryz.ntmps56
  go_wp2
  clear c1 c6
  go_loopw [5] (fun v wr=>∃ i:Nat,i≤W∧v = .int .i64 (i:Nat)∧FSt w fb vm text d b top key (.slice ao W cp) bl wr) (fun v _=>W-(intOf v).toNat)
  case atStart=>exact ⟨0,Nat.zero_le _,rfl,H0.out⟩
  case round=>
   clear H0
   obtain ⟨i,hi,rfl,hF⟩:=hrel
   have HF:=hide hF
   clear hF
   by_cases hlt:i<W
   ·have jl:(i:Int)<(W:Int):=by omega
    obtain ⟨lb,hlb⟩:∃ lb,decide (i+1=W)=lb:=⟨_,rfl⟩
    have zi:((i:Int)==(n1:Int))=lb:=by
     have:=HN1.out
     rw[←hlb]
     by_cases h:i+1=W
     ·rw[decide_eq_true h,beq_iff_eq];omega
     ·rw[decide_eq_false h,beq_eq_false_iff_ne];omega
    have zi2:decide (i=n1)=lb:=by
     have:=HN1.out
     rw[←hlb]
     by_cases h:i+1=W
     ·rw[decide_eq_true h,decide_eq_true (by omega)]
     ·rw[decide_eq_false h,decide_eq_false (by omega)]
    have zi3:(i==n1)=lb:=by rw[←zi2];rfl
    have hbx:=HBL.out i (by rw[HNN.out];exact hlt)
    rw[HNN.out,hlb] at hbx
    have HKN:=hide (fun w=>knonce_any i lb w (by omega))
    have HCH:=hide (fun w=>chunk_any text i w (by omega) (by omega))
    have hcl:(Ref.chunkL text.data.toList i).length≤16:=by unfold Ref.chunkL;rw[List.length_take];omega
    have HSE:=hide (fun w=>sealAt key ⟨(Ref.nonce i lb).toArray⟩ ⟨(Ref.chunkL text.data.toList i).toArray⟩ w HK.out (by rw[two_size,Ref.nonce_len]) (by rw[two_size];omega))
    rw[two_toList,two_toList] at HSE
    have hbq:Ref.box key.data.toList i lb (Ref.chunkL text.data.toList i)=Box.sealed key.data.toList (Ref.nonce i lb) [] (Ref.chunkL text.data.toList i):=by unfold Ref.box;rw[if_pos (by rw[ba_len,HK.out])]
    rw[hbq] at hbx
    have HBX:=hide hbx
    generalize (⟨(Box.sealed key.data.toList (Ref.nonce i lb) [] (Ref.chunkL text.data.toList i)).toArray⟩:ByteArray)=SB at *
    generalize (⟨(Ref.nonce i lb).toArray⟩:ByteArray)=nn at *
    generalize (⟨(Ref.chunkL text.data.toList i).toArray⟩:ByteArray)=cc at *
    have HLT:=hide hlt
    clear hbx hbq hcl hlt hlb
    go_wp2_with fail
    refine (HKN.out _).mono ?_
    rintro e w1 ⟨rfl,be1⟩
    have F1:=hide (HF.out.after be1)
    have c1:=F1.out.blk.cell (i:=1) rfl
    clear HKN be1 HF zi zi2 zi3
    go_wp2_with fail
    refine (HCH.out _).mono ?_
    rintro e w2 ⟨rfl,rfl⟩
    have c5:=F1.out.blk.cell (i:=5) rfl
    clear HCH c1
    go_wp2_with fail
    refine (HSE.out _).mono ?_
    rintro e w3 ⟨rfl,be3⟩
    have F3:=hide (F1.out.after be3)
    have c6:=F3.out.blk.cell (i:=6) rfl
    obtain ⟨g,o,c,hv1,hgl,e1⟩:=F3.out.strs.at i (by rw[HNN.out];exact HLT.out)
    injection hv1 with hv1 hv1n hv1c
    clear hv1n
    subst hv1
    subst hv1c
    rw[HBX.out] at e1
    clear HSE be3 F1 c5
    go_wp2
    go_roundw
    case rel=>exact ⟨i+1,HLT.out,by go_num,F3.out⟩
    case measure=>have:=HLT.out;simp[intOf];omega
   ·have jl:¬ (i:Int)<(W:Int):=by omega
    go_wp2
    go_ret
    exact ⟨rfl,HF.out.be⟩
structure FileF (l:List ByteArray) (d text b H PD KY FK:ByteArray) (ss bs:List ByteArray) (mac:ByteArray) (n:Nat):Prop where
 hn:l.length=n
 ok:Hd.Ok ss bs mac
 nss:ss.length=n
 hs:H.size=59+75*n
 par:Hd.parAns H=(⟨ss,bs,mac⟩,0)
 bl:b.data.toList=H.data.toList++(PD.data.toList++Ref.encF KY.data.toList text.data.toList)
 pd:PD.size=16
 fk:FK.size=16
 ky:KY.size=32
 e0:b.extract 0 H.size=H
 e1:b.extract H.size (H.size+16)=PD
 e2:(b.extract (H.size+16) b.size).data.toList=Ref.encF KY.data.toList text.data.toList
 bz:b.size=H.size+16+(Ref.encF KY.data.toList text.data.toList).length
 top:Hd.wholeAt b.data.toList (H.size-1)∧Hd.noneTo b.data.toList (H.size-1)
 key:KY.data.toList=Ref.keyL FK.data.toList PD.data.toList Ref.inBody
 fkd:FK=d.extract (n*16) ((n+1)*16)
 pdd:PD=d.extract ((n+1)*16) d.size
 sal:∀ i,i<n→ss.getD i ⟨#[]⟩=d.extract (i*16) ((i+1)*16)
 bod:∀ i,i<n→bs.getD i ⟨#[]⟩=⟨(Box.sealed (Ref.keyL (l.getD i ⟨#[]⟩).data.toList (ss.getD i ⟨#[]⟩).data.toList Ref.inWrap) (nought 12) [] FK.data.toList).toArray⟩
 mc:macL (Ref.keyL FK.data.toList [] Ref.inHead) (b.extract 0 (H.size-45)).data.toList=mac.data.toList
 msz:mac.size=32
theorem top_of {T T' r L:List UInt8} {k:Nat} (hT:T=T') (hL:L=T++r) (hk:T.length=k) (h:∀ r,Hd.wholeAt (T'++r) (T'.length-1)∧Hd.noneTo (T'++r) (T'.length-1)):Hd.wholeAt L (k-1)∧Hd.noneTo L (k-1):=by
 subst hT
 subst hL
 subst hk
 exact h r
theorem file_facts (l:List ByteArray) (d text:ByteArray) (h1:1≤l.length) (h3:l.length≤3) (hd:d.size=16*(l.length+2)):
  FileF l d text (fileB l d text) (Ref.head l d 0) (Ref.pdraw l d 0) (Ref.pkey l d 0) (Ref.fkey l d 0) (cuts d 0 l.length) (Ref.bodsL l (cuts d 0 l.length) (Ref.fkey l d 0).data.toList l.length) (Ref.macB l (cuts d 0 l.length) (Ref.fkey l d 0).data.toList) l.length:=by
 have hfk:(Ref.fkey l d 0).size=16:=by unfold Ref.fkey;rw[ByteArray.size_extract];omega
 have hpd:(Ref.pdraw l d 0).size=16:=by unfold Ref.pdraw;rw[ByteArray.size_extract];omega
 have hO:=Ref.okHead (l:=l) (ss:=cuts d 0 l.length) (key:=(Ref.fkey l d 0).data.toList) (by omega) (by omega) (cuts_len _ _ _) (Ref.cuts_size (by omega)) (by rw[ba_len,hfk]) (Ref.macB l (cuts d 0 l.length) (Ref.fkey l d 0).data.toList) (Ref.macB_size _ _ _)
 have hHl:(Ref.head l d 0).data.toList=Hd.text (cuts d 0 l.length) (Ref.bodsL l (cuts d 0 l.length) (Ref.fkey l d 0).data.toList l.length) (Ref.macB l (cuts d 0 l.length) (Ref.fkey l d 0).data.toList):=rfl
 have hHo:Ref.head l d 0=Hd.ofL (Hd.text (cuts d 0 l.length) (Ref.bodsL l (cuts d 0 l.length) (Ref.fkey l d 0).data.toList l.length) (Ref.macB l (cuts d 0 l.length) (Ref.fkey l d 0).data.toList)):=rfl
 have hHs:(Ref.head l d 0).size=59+75*l.length:=by rw[hHo,hO.size_eq,cuts_len]
 have hbl:(fileB l d text).data.toList=(Ref.head l d 0).data.toList++((Ref.pdraw l d 0).data.toList++Ref.encF (Ref.pkey l d 0).data.toList text.data.toList):=by
  show (Ref.file l d 0 text.data.toList)=_
  unfold Ref.file
  rw[List.append_assoc]
 have hHlen:(Ref.head l d 0).data.toList.length=(Ref.head l d 0).size:=ba_len _
 have hPlen:(Ref.pdraw l d 0).data.toList.length=16:=by rw[ba_len,hpd]
 have hbz:(fileB l d text).size=(Ref.head l d 0).size+16+(Ref.encF (Ref.pkey l d 0).data.toList text.data.toList).length:=by
  rw[←ba_len,hbl,List.length_append,List.length_append,hHlen,hPlen,Nat.add_assoc]
 have e0:(fileB l d text).extract 0 (Ref.head l d 0).size=Ref.head l d 0:=ba_ext (by rw[ext_take,hbl,List.take_left' hHlen])
 refine ⟨rfl,hO,cuts_len _ _ _,hHs,by rw[hHo,Hd.parAns_text hO],hbl,hpd,hfk,Ref.pkey_size _ _ _,e0,?_,?_,hbz,?_,rfl,?_,?_,?_,?_,?_,Ref.macB_size _ _ _⟩
 ·apply ba_ext
  rw[sub_list,hbl,Nat.add_sub_cancel_left,List.drop_left' hHlen,List.take_left' hPlen]
 ·rw[sub_list,hbl,←List.append_assoc,List.drop_left' (by rw[List.length_append,hHlen,hPlen]),List.take_of_length_le (by rw[hbz];omega)]
 ·exact top_of hHl hbl hHlen (fun r=>hO.top r)
 ·unfold Ref.fkey
  rw[show 0+16*l.length=l.length*16 by omega,show l.length*16+16=(l.length+1)*16 by omega]
 ·unfold Ref.pdraw
  rw[show 0+16*(l.length+1)=(l.length+1)*16 by omega,show (l.length+1)*16+16=d.size by omega]
 ·intro i hi
  rw[List.getD_eq_getElem?_getD,List.getElem?_eq_getElem (by rw[cuts_len];exact hi)]
  have e:(cuts d 0 l.length)[i]'(by rw[cuts_len];exact hi)=d.extract (0+16*i) (0+16*i+16):=(List.getElem_map _).trans (by rw[List.getElem_range])
  show (cuts d 0 l.length)[i]'(by rw[cuts_len];exact hi)=_
  rw[e,show 0+16*i=i*16 by omega,show i*16+16=(i+1)*16 by omega]
 ·intro i hi
  rw[Ref.bodsL_at _ _ _ _ _ hi]
  rfl
 ·have h:=Ref.text_top hO
  rw[←hHl,hHlen] at h
  rw[ext_take,hbl,List.take_append_of_le_length (by rw[hHlen];omega),h]
  rfl
theorem FileF.topO {l:List ByteArray} {d text b H PD KY FK:ByteArray} {ss bs:List ByteArray} {mac:ByteArray} {n:Nat} (F:FileF l d text b H PD KY FK ss bs mac n) (h3:n≤3) {r:Int} (h:TopO b.data.toList r):r=(H.size:Int):=by
 obtain ⟨t1,t2⟩:=F.top
 have hs:=F.hs
 have hz:=F.bz
 rcases h with ⟨k,_,_,hw,hno,rfl⟩ | ⟨hno,_⟩
 ·rcases Nat.lt_trichotomy k (H.size-1) with h | h | h
  ·exact absurd hw (t2 k h)
  ·omega
  ·exact absurd t1 (hno _ h)
 ·exact absurd t1 (hno _ (by rw[ba_len];omega))
structure KN (w:World) (fc:List Value) (hb:Nat) (vs vc:Value) (mac:ByteArray) (v:Value) (l ss bs:List ByteArray) (wi:World):Prop where
 file:Blk wi w.heap.size 27 fc
 head:Blk wi hb 70 [vs,vc,.string mac]
 tb:Tabs wi
 s0:Strs wi v l
 s1:Strs wi vs ss
 s2:Strs wi vc bs
 be:Below w.heap.size w wi
theorem KN.after {w:World} {fc:List Value} {hb:Nat} {vs vc:Value} {mac:ByteArray} {v:Value} {l ss bs:List ByteArray} {wi wj:World} (h:KN w fc hb vs vc mac v l ss bs wi) (hb':Below wi.heap.size wi wj):KN w fc hb vs vc mac v l ss bs wj:=
 ⟨h.file.below hb' h.file.lt,h.head.below hb' h.head.lt,h.tb.after hb',h.s0.after hb',h.s1.after hb',h.s2.after hb',h.be.trans (hb'.mono h.be.size)⟩
structure FileR (fb:Nat) (v vb:Value) (l:List ByteArray) (d text b H KY:ByteArray) (w:World):Prop where
 blk:Blk w fb 27 (fileCells v text d b (H.size:Int) KY vb)
 ms:Strs w v l
 bx:Strs w vb (Ref.boxesL (Ref.encF KY.data.toList text.data.toList) (Ref.full text.size+1))
def KnownP (v:Value) (l:List ByteArray) (d text b H KY:ByteArray) (w:World) (e:Ending) (w':World):Prop:=∃ vb,e = .returned (.tuple #[.pointer (some ⟨w.heap.size,0,none⟩),.bool true])∧FileR w.heap.size v vb l d text b H KY w'∧Below w.heap.size w w'
theorem known_nums (n i:Nat) (hn:n≤4) (hi:i<n):∃ a b:Nat,(i:Int)*16=(a:Int)∧((i:Int)+1)*16=(b:Int)∧a=i*16∧b=(i+1)*16∧(a:Int)≤(b:Int)∧b≤64:=⟨i*16,(i+1)*16,by omega,by omega,rfl,rfl,by omega,by omega⟩
theorem boxes_right {KY text:ByteArray} (hk:KY.size=32) {M:Nat} (hM:Ref.full text.size+1=M):∀ j,j<(Ref.boxesL (Ref.encF KY.data.toList text.data.toList) M).length→(Ref.boxesL (Ref.encF KY.data.toList text.data.toList) M).getD j ⟨#[]⟩=⟨(Ref.box KY.data.toList j (decide (j+1=(Ref.boxesL (Ref.encF KY.data.toList text.data.toList) M).length)) (Ref.chunkL text.data.toList j)).toArray⟩:=by
 intro j hj
 rw[Ref.boxesL_len] at hj ⊢
 have hd:decide (j+1=M)=decide (j=Ref.full text.data.toList.length):=by
  rw[ba_len]
  by_cases h:j=Ref.full text.size
  ·rw[decide_eq_true h,decide_eq_true (by omega)]
  ·rw[decide_eq_false h,decide_eq_false (by omega)]
 rw[Ref.boxesL_at _ _ _ hj,Ref.encF_box (by rw[ba_len,hk]) _ _ (by rw[ba_len];omega),hd]
set_option maxRecDepth 100000 in
set_option maxHeartbeats 3200000 in
theorem known_any (v:Value) (l:List ByteArray) (d text b H PD KY FK:ByteArray) (ss bs:List ByteArray) (mac:ByteArray) (n:Nat) (w:World) (ht:Tabs w) (hv:Strs w v l) (h1:1≤n) (h3:n≤3) (hm:∀ m ∈ l,m.size=32) (hd:d.size=16*(n+2)) (hx:text.size≤268435456) (F:FileF l d text b H PD KY FK ss bs mac n):
  Calls Tryz.prog 26 #[v,.string d,.string text,.string b] w (KnownP v l d text b H KY w):=by
 have hEl:=Ref.encF_len (key:=KY.data.toList) (by rw[ba_len,F.ky]) text.data.toList
 have hbz:=F.bz
 have hHs:=F.hs
 have hfn:=Ref.full_nums text.data.toList.length
 have htl:text.data.toList.length=text.size:=ba_len _
 have hbs:b.size≤34359738368:=by omega
 have HTO:=hide (topOf_any b)
 have HPA:=hide (fun w=>pParse_any H w (by omega))
 rw[F.par] at HPA
 change Hid (∀ w,Calls Tryz.prog 31 #[.string H] w fun e w'=>∃ vs vb,e = .returned (.tuple #[.agg #[vs,vb,.string mac],.int .i64 0]) ∧
   Row w' w.heap.size 9 1 vs ss.length (strV ss)∧Row w' w.heap.size 9 1 vb bs.length (strV bs)∧Below w.heap.size w w') at HPA
 have HF:=hide F
 have HT:=hide ht
 have HV:=hide hv
 have HV2:=hide hv
 have HM:=hide hm
 obtain ⟨ao,cp,hvv⟩:=hv.len
 rw[F.hn] at hvv
 subst hvv
 obtain ⟨T,hT⟩:∃ T:Nat,H.size=T:=⟨_,rfl⟩
 have e0:=F.e0
 rw[hT] at e0 hHs hbz
 have HHT:=hide hT
 obtain ⟨N,hN⟩:∃ N:Nat,b.size=N:=⟨_,rfl⟩
 have HBN:=hide hN
 have hTN:T+16≤N:=by omega
 have j1:¬ (T:Int)<45:=by omega
 have j2:¬ (N:Int)<(T:Int)+16:=by omega
 have hT3:T≤284:=by omega
 have hB0:Blk (w.alloc (.cells (fileCells (.slice ao n cp) text d b 0 ⟨#[]⟩ (.slice none 0 0)).toArray 27)) w.heap.size 27 (fileCells (.slice ao n cp) text d b 0 ⟨#[]⟩ (.slice none 0 0)):=Blk.new rfl rfl
 have hbA:Below w.heap.size w (w.alloc (.cells (fileCells (.slice ao n cp) text d b 0 ⟨#[]⟩ (.slice none 0 0)).toArray 27)):=(Below.refl _ _).alloc (Nat.le_refl _) _
 obtain ⟨w1,hw1⟩:∃ x,w.alloc (.cells (fileCells (.slice ao n cp) text d b 0 ⟨#[]⟩ (.slice none 0 0)).toArray 27)=x:=⟨_,rfl⟩
 rw[hw1] at hB0 hbA
 have HTO1:=hide (HTO.out w1 (by omega))
 have f1:=hB0.frozen
 have c4:=(hB0.setCell_same 4 (.int .i64 (T:Nat))).cell (i:=4) rfl
 have c40:=hB0.cell (i:=4) rfl
 have HB2:=hide (show Blk (w1.setCell ⟨w.heap.size,4,none⟩ (.int .i64 (T:Nat))) w.heap.size 27 (fileCells (.slice ao n cp) text d b (T:Nat) ⟨#[]⟩ (.slice none 0 0)) from hB0.setCell_same 4 _)
 have HBE2:=hide (hbA.setCell (p:=⟨w.heap.size,4,none⟩) (Nat.le_refl _) (.int .i64 (T:Nat)))
 have HTR:=hide (fun r h=>(F.topO h3 (r:=r) h).trans (by rw[hT]))
 clear F ht hv hm hEl hbz hHs hfn htl hT hB0 hbA HTO
 go_enter Tryz.func26,Tryz.ntmps26
 go_wp2_with fail
 rw[show w.alloc (.cells #[.slice ao n cp,.string text,.string d,.string b,.int .i64 0,.string ⟨#[]⟩,.slice none 0 0] 27)=w1 from hw1]
 refine HTO1.out.mono ?_
 rintro e w1' ⟨r,hr,rfl,rfl⟩
 obtain rfl:=HTR.out r hr
 clear hw1 HTO1 HTR hr
 obtain ⟨w2,hw2⟩:∃ x,w1'.setCell ⟨w.heap.size,4,none⟩ (.int .i64 (T:Nat))=x:=⟨_,rfl⟩
 rw[hw2] at c4 HB2 HBE2
 go_wp2_with fail
 refine (HPA.out _).mono ?_
 rintro e w3 ⟨vs,vc,rfl,hr1,hr2,hb3⟩
 have hbB:Below w3.heap.size w3 (w3.alloc (.cells #[vs,vc,.string mac] 70)):=(Below.refl _ _).alloc (Nat.le_refl _) _
 have hbC:Below w2.heap.size w2 (w3.alloc (.cells #[vs,vc,.string mac] 70)):=hb3.trans (hbB.mono hb3.size)
 have hB3:Blk (w3.alloc (.cells #[vs,vc,.string mac] 70)) w3.heap.size 70 [vs,vc,.string mac]:=Blk.new rfl rfl
 have hK3:KN w (fileCells (.slice ao n cp) text d b (T:Nat) ⟨#[]⟩ (.slice none 0 0)) w3.heap.size vs vc mac (.slice ao n cp) l ss bs (w3.alloc (.cells #[vs,vc,.string mac] 70)):=
  ⟨HB2.out.below hbC HB2.out.lt,hB3,(HT.out.below HBE2.out HT.out.two).after hbC,(HV.out.below HBE2.out HV.out.blt).after hbC,(Row.strs hr1).after hbB,(Row.strs hr2).after hbB,HBE2.out.trans (hbC.mono HBE2.out.size)⟩
 have HK3:=hide hK3
 have hss:=HF.out.nss
 have hbl:bs.length=n:=by rw[HF.out.ok.nb,hss]
 rw[hss] at hr1
 rw[hbl] at hr2
 obtain ⟨o1,c1,rfl,_⟩:=Row.anyN hr1
 obtain ⟨o2,c2,rfl,_⟩:=Row.anyN hr2
 have k0:=hK3.head.cell (i:=0) rfl
 obtain ⟨A,B,t1,t2,hA,hBB,t3,t4⟩:=known_nums (n+1) n (by omega) (by omega)
 have hfk:=HF.out.fkd.symm
 rw[←hA,←hBB] at hfk
 have j3:(B:Int)≤(d.size:Int):=by omega
 have HAB:=hide (And.intro hA (And.intro hBB hd))
 clear hA hBB hd
 obtain ⟨w4,hw4⟩:∃ x,w3.alloc (.cells #[.slice o1 n c1,.slice o2 n c2,.string mac] 70)=x:=⟨_,rfl⟩
 rw[hw4] at HK3 k0
 clear hr1 hr2 hb3 hbB hbC hB3 hK3 HPA HB2 HBE2 c4 f1 c40 HT HV
 go_wp2
 clear k0
 obtain ⟨fc,hfc⟩:∃ x,fileCells (.slice ao n cp) text d b (T:Nat) ⟨#[]⟩ (.slice none 0 0)=x:=⟨_,rfl⟩
 rw[hfc] at HK3
 have HFC:=hide hfc
 clear hfc t1 t2 t3 t4
 obtain ⟨hb,hhb⟩:∃ x:Nat,w3.heap.size=x:=⟨_,rfl⟩
 rw[hhb] at HK3 ⊢
 go_loopw [15] (fun v wr=>∃ i:Nat,i≤n∧v = .int .i64 (i:Nat)∧KN w fc hb (.slice o1 n c1) (.slice o2 n c2) mac (.slice ao n cp) l ss bs wr) (fun v _=>n-(intOf v).toNat)
 case atStart=>exact ⟨0,Nat.zero_le _,rfl,HK3.out⟩
 case round=>
  clear HK3
  obtain ⟨i,hi,rfl,hK⟩:=hrel
  have HK:=hide hK
  by_cases hlt:i<n
  ·have jl:(i:Int)<(n:Int):=by omega
   obtain ⟨g0,p0,q0,hv0,hgl0,e0⟩:=hK.s0.at i (by rw[HF.out.hn];exact hlt)
   injection hv0 with hv0 hv0n hv0c
   clear hv0n
   obtain ⟨g1,p1,q1,hv1,hgl1,e1⟩:=hK.s1.at i (by rw[HF.out.nss];exact hlt)
   injection hv1 with hv1 hv1n hv1c
   clear hv1n
   obtain ⟨g2,p2,q2,hv2,hgl2,e2⟩:=hK.s2.at i (by rw[HF.out.ok.nb,HF.out.nss];exact hlt)
   injection hv2 with hv2 hv2n hv2c
   clear hv2n
   subst hv0
   subst hv0c
   subst hv1
   subst hv1c
   subst hv2
   subst hv2c
   have hsal:=HF.out.sal i hlt
   have hbod:=HF.out.bod i hlt
   have hm32:(l.getD i ⟨#[]⟩).size=32:=by
    have hil:i<l.length:=by rw[HF.out.hn];exact hlt
    rw[List.getD_eq_getElem?_getD,List.getElem?_eq_getElem hil]
    exact HM.out _ (List.getElem_mem hil)
   have hs16:(ss.getD i ⟨#[]⟩).size≤16:=by rw[hsal,ByteArray.size_extract];omega
   obtain ⟨A1,B1,t1,t2,hA1,hB1,t3,t4⟩:=known_nums n i (by omega) hlt
   rw[←hA1,←hB1] at hsal
   have j4:(B1:Int)≤(d.size:Int):=by have:=HAB.out.2.2;omega
   have hfz:=HF.out.fk
   generalize l.getD i ⟨#[]⟩=mi at *
   generalize ss.getD i ⟨#[]⟩=si at *
   generalize bs.getD i ⟨#[]⟩=bi at *
   have k0:=hK.head.cell (i:=0) rfl
   have hhl:hb<wr.heap.size:=hK.head.lt
   have HKY:=hide (kKey_any mi si ⟨#[119,114,97,112]⟩ wr.drew (by omega) (by omega) (by decide) hK.tb.k hK.tb.h hK.tb.two)
   rw[show (expO (macL si.data.toList mi.data.toList) (⟨#[119,114,97,112]⟩:ByteArray).data.toList 1).take 32=Ref.keyL mi.data.toList si.data.toList Ref.inWrap from rfl] at HKY
   have hkz:(⟨(Ref.keyL mi.data.toList si.data.toList Ref.inWrap).toArray⟩:ByteArray).size=32:=by rw[two_size,Ref.keyL_len]
   have HSE:=hide (fun w=>sealAt ⟨(Ref.keyL mi.data.toList si.data.toList Ref.inWrap).toArray⟩ ⟨(nought 12).toArray⟩ FK w hkz rfl (by omega))
   rw[two_toList,two_toList,←hbod] at HSE
   generalize (⟨(Ref.keyL mi.data.toList si.data.toList Ref.inWrap).toArray⟩:ByteArray)=kk at *
   have HLT:=hide hlt
   have HCL:=hide (And.intro e1 e2)
   have HGL:=hide (And.intro hgl1 hgl2)
   have hs1:=hsal.symm
   clear hK hbod hsal hkz hlt hA1 hB1 hs16 hm32 hfz hi
   go_wp2
   go_region_held3 (fun w'=>w'.cell? ⟨g0,p0+i,none⟩=some (.string mi)∧w'.cell? ⟨hb,0,none⟩=some (.slice (some ⟨g1,p1,none⟩) n c1)∧w'.cell? ⟨g1,p1+i,none⟩=some (.string si)) (refine ⟨?_,?_,?_⟩ <;> first | assumption | (exact (hb5.cell hgl0).trans (by assumption)) | (exact (hb5.cell hhl).trans (by assumption)) | (exact (hb5.cell hgl1).trans (by assumption))) ((go_at_call 32;refine HKY.out.mono ?_;rintro e w5 ⟨rfl,hb5⟩))
   rename_i hH
   clear hH
   have hbd:Below wr.heap.size wr w5:=(show Below wr.heap.size wr wr.drew from ⟨rfl,rfl,rfl,Nat.le_refl _,fun _ _=>rfl⟩).trans hb5
   have K5:=hide (HK.out.after hbd)
   have HC5:=hide (And.intro ((hbd.cell HGL.out.1).trans HCL.out.1) ((hbd.cell HGL.out.2).trans HCL.out.2))
   have HG5:=hide (show g1<w5.heap.size∧g2<w5.heap.size from ⟨Nat.lt_of_lt_of_le HGL.out.1 hbd.size,Nat.lt_of_lt_of_le HGL.out.2 hbd.size⟩)
   clear hb5 hbd HK HCL HGL HKY k0 e0 e1 e2 hgl0 hgl1 hgl2 hhl
   go_wp2_with fail
   refine (zeros_any _).mono ?_
   rintro e w6 ⟨rfl,hb6⟩
   have K6:=hide (K5.out.after hb6)
   have HC6:=hide (And.intro ((hb6.cell HG5.out.1).trans HC5.out.1) ((hb6.cell HG5.out.2).trans HC5.out.2))
   have HG6:=hide (show g1<w6.heap.size∧g2<w6.heap.size from ⟨Nat.lt_of_lt_of_le HG5.out.1 hb6.size,Nat.lt_of_lt_of_le HG5.out.2 hb6.size⟩)
   clear hb6 K5 HC5 HG5
   go_wp2_with fail
   refine (HSE.out _).mono ?_
   rintro e w7 ⟨rfl,hb7⟩
   have K7:=hide (K6.out.after hb7)
   have d1:=(hb7.cell HG6.out.1).trans HC6.out.1
   have d2:=(hb7.cell HG6.out.2).trans HC6.out.2
   have k0:=K7.out.head.cell (i:=0) rfl
   have k1:=K7.out.head.cell (i:=1) rfl
   clear hb7 K6 HC6 HG6 HSE
   go_wp2
   go_quiet (fail)
   go_wp2
   go_roundw
   case rel=>exact ⟨i+1,HLT.out,by go_num,K7.out.after (below_drewN (Below.refl _ _) _)⟩
   case measure=>have:=HLT.out;simp[intOf];omega
  ·obtain rfl:i=n:=by omega
   have jl:¬ (i:Int)<(i:Int):=by omega
   have hfz:=HF.out.fk
   have hpz:=HF.out.pd
   have HKH:=hide (kKey_any FK ⟨#[]⟩ ⟨#[104,101,97,100,101,114]⟩ wr (by omega) (by decide) (by decide) hK.tb.k hK.tb.h hK.tb.two)
   rw[show (expO (macL (⟨#[]⟩:ByteArray).data.toList FK.data.toList) (⟨#[104,101,97,100,101,114]⟩:ByteArray).data.toList 1).take 32=Ref.keyL FK.data.toList [] Ref.inHead from rfl] at HKH
   obtain ⟨E,hE⟩:∃ E:Nat,T-45=E:=⟨_,rfl⟩
   have tE:(T:Int)-45=(E:Int):=by omega
   have jE:(E:Int)≤(N:Int):=by omega
   have hmc:=HF.out.mc
   rw[HHT.out,hE] at hmc
   have HMA:=hide (fun (w':World) (t:Tabs w')=>hmac_any ⟨(Ref.keyL FK.data.toList [] Ref.inHead).toArray⟩ (b.extract 0 E) w' (by rw[two_size,Ref.keyL_len];decide) (by rw[ByteArray.size_extract];omega) t.k t.h t.two)
   rw[two_toList,hmc] at HMA
   have HMM:=hide (show (⟨mac.data.toList.toArray⟩:ByteArray)=mac from ba_ext rfl)
   rw[HMM.out] at HMA
   generalize (⟨(Ref.keyL FK.data.toList [] Ref.inHead).toArray⟩:ByteArray)=hk at *
   have hpd:=HF.out.e1
   rw[HHT.out] at hpd
   have hpdd:=HF.out.pdd.symm
   have HKP:=hide (fun (w':World) (t:Tabs w')=>kKey_any FK PD ⟨#[112,97,121,108,111,97,100]⟩ w' (by omega) (by omega) (by decide) t.k t.h t.two)
   rw[show (expO (macL PD.data.toList FK.data.toList) (⟨#[112,97,121,108,111,97,100]⟩:ByteArray).data.toList 1).take 32=Ref.keyL FK.data.toList PD.data.toList Ref.inBody from rfl,←HF.out.key,show (⟨KY.data.toList.toArray⟩:ByteArray)=KY from ba_ext rfl] at HKP
   obtain ⟨T2,hT2⟩:∃ x:Nat,T+16=x:=⟨_,rfl⟩
   rw[hT2] at hpd
   have tT2:(T:Int)+16=(T2:Int):=by omega
   have jT2:(T2:Int)≤(N:Int):=by omega
   have jT1:(T:Int)≤(T2:Int):=by omega
   obtain ⟨B5,hB5⟩:∃ x:Nat,(i+1)*16=x:=⟨_,rfl⟩
   have tB5:((i:Int)+1)*16=(B5:Int):=by omega
   have jB5:(B5:Int)≤(d.size:Int):=by have:=HAB.out.2.2;omega
   rw[hB5] at hpdd
   have hbe:(b.extract T2 N).data.toList=Ref.encF KY.data.toList text.data.toList:=by
    have h:=HF.out.e2
    rw[HHT.out,hT2,HBN.out] at h
    exact h
   have HBX:=hide (fun w=>boxes_any (b.extract T2 N) w (by rw[ByteArray.size_extract];omega))
   have hbn:Ref.boxN (b.extract T2 N).size=Ref.full text.size+1:=by
    rw[←ba_len,hbe,Ref.encF_boxN (by rw[ba_len,HF.out.ky]),ba_len]
   rw[hbn,hbe] at HBX
   have HK:=hide hK
   clear hK hmc hE hT2 hB5 hbe hbn hfz hpz hi
   go_wp2_with fail
   refine HKH.out.mono ?_
   rintro e w5 ⟨rfl,hb5⟩
   have K5:=hide (HK.out.after hb5)
   have HM5:=hide (HMA.out w5 K5.out.tb)
   have hf5:=K5.out.file
   rw[←HFC.out] at hf5
   have q4:=hf5.cell (i:=4) rfl
   clear hb5 HK HKH HMA hf5
   go_wp2_with fail
   refine HM5.out.mono ?_
   rintro e w6 ⟨rfl,hb6⟩
   have K6:=hide (K5.out.after hb6)
   have hf6:=K6.out.file
   rw[←HFC.out] at hf6
   have q4:=hf6.cell (i:=4) rfl
   have k2:=K6.out.head.cell (i:=2) rfl
   clear hb6 K5 HM5 hf6
   go_wp2
   go_quiet (fail)
   have K6b:=hide (K6.out.after (below_drewN (Below.refl _ _) nq))
   obtain ⟨w6b,hw6b⟩:∃ x,w6.drewN nq=x:=⟨_,rfl⟩
   rw[hw6b] at K6b
   have hk2:w6b.cell? ⟨hb,2,none⟩=some (.string mac):=K6b.out.head.cell (i:=2) rfl
   have HK6:=hide (HKP.out w6b K6b.out.tb)
   rw[hw6b]
   clear hw6b K6 HKP k2 q4
   go_wp2_with fail
   refine HK6.out.mono ?_
   rintro e w7 ⟨rfl,hb7⟩
   have K7:=hide (K6b.out.after hb7)
   have hf7:=K7.out.file
   rw[←HFC.out] at hf7
   have f7:=hf7.frozen
   have q5:=hf7.cell (i:=5) rfl
   have hf8:=hf7.setCell_same 5 (.string KY)
   have q4:=hf8.cell (i:=4) rfl
   have HF8:=hide (show Blk (w7.setCell ⟨w.heap.size,5,none⟩ (.string KY)) w.heap.size 27 (fileCells (.slice ao i cp) text d b (T:Nat) KY (.slice none 0 0)) from hf8)
   have HB8:=hide (K7.out.be.setCell (p:=⟨w.heap.size,5,none⟩) (Nat.le_refl _) (.string KY))
   have HS8:=hide (HV2.out.below HB8.out HV2.out.blt)
   obtain ⟨w8,hw8⟩:∃ x,w7.setCell ⟨w.heap.size,5,none⟩ (.string KY)=x:=⟨_,rfl⟩
   rw[hw8] at q4 HF8 HB8 HS8
   clear hb7 K6b HK6 hf7 hf8 K7 hk2
   go_wp2_with fail
   refine (HBX.out _).mono ?_
   rintro e w9 ⟨vb,rfl,hr9,hb9⟩
   have HF9:=hide (HF8.out.below hb9 HF8.out.lt)
   have HB9:=hide (HB8.out.trans (hb9.mono HB8.out.size))
   have f9:=HF9.out.frozen
   have q6:=HF9.out.cell (i:=6) rfl
   obtain ⟨o9,c9,rfl,_⟩:=Row.anyN hr9
   obtain ⟨M,hM⟩:∃ x:Nat,Ref.full text.size+1=x:=⟨_,rfl⟩
   rw[hM] at hr9
   have hG:=((World.grownBy.refl w9 (some w.heap.size)).setCell 6 (.slice o9 M c9))
   have hlt8:w.heap.size<w8.heap.size:=HF8.out.lt
   have hr10:=hr9.kept hG (by
    cases hv:(Value.slice o9 M c9).ownBlock with
    | none=>exact .inl rfl
    | some g=>
     refine .inr fun e=>?_
     injection e with e
     have:=(hr9.lt g hv).1
     omega)
   have HF10:=hide (show Blk (w9.setCell ⟨w.heap.size,6,none⟩ (.slice o9 M c9)) w.heap.size 27 (fileCells (.slice ao i cp) text d b (T:Nat) KY (.slice o9 M c9)) from HF9.out.setCell_same 6 _)
   have HB10:=hide (HB9.out.setCell (p:=⟨w.heap.size,6,none⟩) (Nat.le_refl _) (.slice o9 M c9))
   have hS10:Strs (w9.setCell ⟨w.heap.size,6,none⟩ (.slice o9 M c9)) (.slice o9 M c9) (Ref.boxesL (Ref.encF KY.data.toList text.data.toList) M):=Row.strs (by rw[Ref.boxesL_len];exact hr10)
   have HS10:=hide hS10
   have HSL:=hide (fsealed_any w.heap.size _ _ text d b KY (T:Nat) (Ref.boxesL (Ref.encF KY.data.toList text.data.toList) M) _ HF10.out hS10 HF.out.ky hx (by rw[Ref.boxesL_len,hM]) (boxes_right HF.out.ky hM))
   have HVB:=hide (HV2.out.below HB10.out HV2.out.blt)
   rw[hM]
   obtain ⟨w10,hw10⟩:∃ x,w9.setCell ⟨w.heap.size,6,none⟩ (.slice o9 M c9)=x:=⟨_,rfl⟩
   rw[hw10] at HF10 HB10 HS10 HSL HVB
   have HMM2:=hide hM
   clear hr9 hr10 hb9 hG hS10 HF8 HB8 HS8 HF9 HB9 HBX q4 hM
   go_wp2_with fail
   refine HSL.out.mono ?_
   rintro e w11 ⟨rfl,hb11⟩
   have HF11:=hide (HF10.out.below hb11 HF10.out.lt)
   have HS11:=hide (HS10.out.after hb11)
   have HV11:=hide (HVB.out.after hb11)
   have HB11:=hide (HB10.out.trans (hb11.mono HB10.out.size))
   clear HSL hb11 HF10 HS10 HVB HB10
   go_wp2
   refine bodyPost_ret (results_tmp2 rfl _ _ _) rfl ?_
   exact ⟨_,rfl,⟨by rw[HHT.out];exact HF11.out,HV11.out,by rw[HMM2.out];exact HS11.out⟩,HB11.out⟩
theorem tx_all (tx:ByteArray):tx.extract 0 tx.size=tx:=ba_ext (by rw[ext_take,List.take_of_length_le (by rw[ba_len];exact Nat.le_refl _)])
theorem tx_end (tx:ByteArray):ByteArray.empty=tx.extract tx.size tx.size:=ba_ext (by rw[sub_list];simp)
theorem tx_none (tx:ByteArray):tx.extract 0 0=ByteArray.empty:=ba_ext (by rw[sub_list];simp)
theorem piece_call {X tx:ByteArray} {j:Nat} (h:X.extract j X.size=tx) (a:ByteArray) (n:Nat) (ha:tx.extract 0 n=a) {v:Value} {w:World} {Q:Ending→World→Prop} (hc:Calls Tryz.prog 50 #[v,.string ((X.extract j X.size).extract 0 n)] w Q):Calls Tryz.prog 50 #[v,.string a] w Q:=by
 rw[h,ha] at hc
 exact hc
theorem tx_drop {X tx:ByteArray} {j:Nat} (h:X.extract j X.size=tx) (hj:j≤X.size) (n:Nat) {y:ByteArray} (hy:y=tx.extract n tx.size):y=X.extract (j+n) X.size:=by
 subst hy
 subst h
 apply ba_ext
 have hz:(X.extract j X.size).size=X.size-j:=by rw[ByteArray.size_extract];omega
 rw[hz,sub_list,sub_list,sub_list,List.drop_take,List.drop_drop,List.take_take]
 congr 1
 omega
theorem Snk.ok_nil {k:Snk} (h:k.plan=[]) (t:ByteArray):k.ok t=true:=by
 unfold Snk.ok sinkN
 rw[h,if_neg (by simp)]
 simp
def OkN (wb sk g:Nat) (key X:ByteArray) (hd:List UInt8) (j:Nat) (w:World):Prop:=∃ s:Ref.Wr,WRep wb sk g key s w∧Ref.Good key.data.toList X.data.toList hd j s∧s.n≤j∧s.k.got.size≤2000+32*j∧s.k.pos≤2+j∧s.k.plan=[]
def WroteN (wb sk g:Nat) (key X:ByteArray) (hd:List UInt8) (j n:Nat) (w:World) (e:Ending) (w':World):Prop:=
 e = .returned (.tuple #[.int .i64 (n:Nat),.int .i64 0])∧OkN wb sk g key X hd (j+n) w'∧Chg (fun x=>x=wb∨x=sk) w w'
theorem write_okN {w1:World} {wb sk g:Nat} {key X:ByteArray} {hd:List UInt8} {j:Nat} (n:Nat) (h:OkN wb sk g key X hd j w1) (hkey:key.size=32) (hX:X.size≤268435456) (hj:j+n≤X.size) (hwk:wb≠sk) (hwg:wb≠g) (hgk:g≠sk):
  Calls Tryz.prog 50 #[.pointer (some ⟨wb,0,none⟩),.string ((X.extract j X.size).extract 0 n)] w1 (WroteN wb sk g key X hd j n w1):=by
 obtain ⟨s,hR,hG,b1,b2,b3,b4⟩:=h
 obtain ⟨p,hp⟩:∃ p,(X.extract j X.size).extract 0 n=p:=⟨_,rfl⟩
 have hpl:p.data.toList=(X.data.toList.drop j).take n:=by rw[←hp,ext_take,sub_list,List.take_take,Nat.min_eq_left (by omega)]
 have hpn:p.data.toList.length=n:=by rw[hpl,List.length_take,List.length_drop,ba_len];omega
 have hps:p.size=n:=by rw[←ba_len,hpn]
 have hget:∀ i,i<p.data.toList.length→p.data.toList.getD i 0=X.data.toList.getD (j+i) 0:=by
  intro i hi
  rw[hpn] at hi
  rw[hpl,List.getD_eq_getElem?_getD,List.getD_eq_getElem?_getD,List.getElem?_take,if_pos hi,List.getElem?_drop]
 have hat:=hG.at p.data.toList hget (by rw[hpn,ba_len];exact hj)
 have hft:=Ref.Wr.at_fits s hR.t16 key.data.toList p.data.toList
 rw[hp]
 refine (write_any wb sk g key s p w1 hR hkey hwk hwg hgk (by omega) (by omega) (by omega)).mono ?_
 rintro e w2 (⟨r,hr,rfl,hR2,hC⟩ | ⟨i,r,hi,hr,h16,hok,rfl,hW,hS,hC⟩)
 ·rw[hps] at hr ⊢
  have f:=hft n r hr
  have f1:=f.n
  have f2:=f.got
  have f3:=f.pos
  exact ⟨rfl,⟨r,hR2,hat n r (by omega) hr,by omega,by omega,by omega,f.plan.trans b4⟩,hC⟩
 ·rw[Snk.ok_nil ((hft i r hr).plan.trans b4)] at hok
  cases hok
def ClosedN (wb sk g:Nat) (F:List UInt8) (w:World) (e:Ending) (w':World):Prop:=e = .returned (.int .i64 0)∧WEnd wb 14 w'∧(∃ k:Snk,Blk w' sk 96 (k.cells g)∧k.got=⟨F.toArray⟩)∧Chg (fun x=>x=wb∨x=sk) w w'
theorem close_okN {w1:World} {wb sk g:Nat} {key X:ByteArray} {hd:List UInt8} (h:OkN wb sk g key X hd X.size w1) (hkey:key.size=32) (hX:X.size≤268435456) (hwk:wb≠sk):
  Calls Tryz.prog 51 #[.pointer (some ⟨wb,0,none⟩)] w1 (ClosedN wb sk g (hd++Ref.encF key.data.toList X.data.toList) w1):=by
 obtain ⟨s,hR,hG,b1,b2,b3,b4⟩:=h
 rw[←ba_len] at hG
 refine (close_any wb sk g key s w1 hR hkey hwk (by omega) (by omega) (by omega)).mono ?_
 rintro e w2 ⟨rfl,hW,hS,hC⟩
 have hok:=Snk.ok_nil b4 (s.box key.data.toList true)
 have he:s.k.err (s.box key.data.toList true)=0:=by unfold Snk.err;rw[hok];rfl
 rw[hok] at hW
 rw[he]
 exact ⟨rfl,hW,⟨_,hS,ba_ext (by rw[hG.closed hok])⟩,hC⟩
def LoopN (w:World) (wb sk g:Nat) (key X:ByteArray) (hd:List UInt8) (vt vk:Value) (wr:World):Prop:=∃ j k:Nat,j≤X.size∧k≤101+j∧vt = .string (X.extract j X.size)∧vk = .int .i64 k∧OkN wb sk g key X hd j wr∧Chg (fun x=>x=wb∨x=sk) w wr
set_option maxRecDepth 100000 in
set_option maxHeartbeats 3200000 in
theorem written_any (wb sk g:Nat) (key text:ByteArray) (hd:List UInt8) (turn:Int) (w:World) (h0:OkN wb sk g key text hd 0 w) (hkey:key.size=32) (hx:text.size≤268435456) (t1 : -9223372036854775808≤turn) (t2:turn≤9223372036854775807) (hwk:wb≠sk) (hwg:wb≠g) (hgk:g≠sk):
  Calls Tryz.prog 23 #[.pointer (some ⟨wb,0,none⟩),.string text,.int .i64 turn] w fun e w'=>e = .returned (.bool true)∧(∃ k:Snk,Blk w' sk 96 (k.cells g)∧k.got=⟨(hd++Ref.encF key.data.toList text.data.toList).toArray⟩)∧Chg (fun x=>x=wb∨x=sk) w w':=by
 have HPI:=hide (fun k w hk=>piece_any turn k w t1 t2 hk)
 have HX:=hide hx
 have HKY:=hide hkey
 have HNE:=hide (And.intro hwk (And.intro hwg hgk))
 have H0:=hide h0
 have HX0:=hide (show text.extract 0 text.size=text from tx_all text)
 clear h0 hx hkey t1 t2 hwk hwg hgk
 go_enter Tryz.func23,Tryz.ntmps23
 go_wp2
 go_loopw [1,7] (fun vt vk wr=>LoopN w wb sk g key text hd vt vk wr) (fun vt vk _=>2*strLen vt+(102+text.size-(intOf vk).toNat))
 case atStart=>exact ⟨0,0,Nat.zero_le _,Nat.zero_le _,by rw[HX0.out],rfl,H0.out,Chg.refl _ _⟩
 case round=>
  clear H0 HX0
  obtain ⟨j,k,hj,hk,rfl,rfl,hok,hch⟩:=hrel
  have hxb:=HX.out
  obtain ⟨tx,htx⟩:∃ x,text.extract j text.size=x:=⟨_,rfl⟩
  have hts:tx.size=text.size-j:=by rw[←htx,ByteArray.size_extract];omega
  rw[htx]
  have HTX:=hide htx
  have HTS:=hide hts
  have HJ:=hide hj
  have HKB:=hide (show k≤268435557∧tx.size≤268435456 by omega)
  have HKJ:=hide hk
  have kb:(k:Int)≤268435557:=by omega
  have tb:(tx.size:Int)≤268435456:=by omega
  have HOK:=hide hok
  have HCH:=hide hch
  clear htx hts hj hxb hk hok hch
  by_cases hgo:0<tx.size∨k<2
  ·have HPK:=hide (fun w=>HPI.out k w (by have:=HKB.out;omega))
   by_cases h0:0<tx.size
   ·have j0:(0:Int)<(tx.size:Int):=by omega
    go_wp2_with fail
    refine (HPK.out _).mono ?_
    rintro e w9 ⟨n,hn,rfl,rfl⟩
    clear HPK
    by_cases hnm:tx.size<n
    ·have j1:(tx.size:Int)<(n:Int):=by omega
     have HWO:=hide (show Calls Tryz.prog 50 #[.pointer (some ⟨wb,0,none⟩),.string tx] w9 (WroteN wb sk g key text hd j (tx.size) w9) from piece_call HTX.out tx (tx.size) (by exact tx_all tx) (write_okN (tx.size) HOK.out HKY.out HX.out (by have:=HTS.out;have:=HJ.out;omega) HNE.out.1 HNE.out.2.1 HNE.out.2.2))
     clear HOK
     go_wp2_with fail
     refine HWO.out.mono ?_
     rintro e w10 ⟨rfl,hok2,hc10⟩
     have H2:=hide hok2
     have HC10:=hide (HCH.out.trans hc10)
     clear hok2 hc10 HWO
     go_wp2
     go_roundw
     case rel=>exact ⟨j+(tx.size),k+1,by have:=HTS.out;have:=HJ.out;omega,by have:=HKJ.out;omega,congrArg Value.string (tx_drop HTX.out HJ.out (tx.size) (tx_end tx)),by go_num,H2.out,HC10.out⟩
     case measure=>have:=HKJ.out;have:=HTS.out;have:=HJ.out;simp[intOf,strLen];omega
    ·have j1:¬ (tx.size:Int)<(n:Int):=by omega
     by_cases hn0:n=0
     ·subst hn0
      by_cases hk1:100<k
      ·have j2:(100:Int)<(k:Int):=by omega
       have HWO:=hide (show Calls Tryz.prog 50 #[.pointer (some ⟨wb,0,none⟩),.string tx] w9 (WroteN wb sk g key text hd j (tx.size) w9) from piece_call HTX.out tx (tx.size) (by exact tx_all tx) (write_okN (tx.size) HOK.out HKY.out HX.out (by have:=HTS.out;have:=HJ.out;omega) HNE.out.1 HNE.out.2.1 HNE.out.2.2))
       clear HOK
       go_wp2_with fail
       refine HWO.out.mono ?_
       rintro e w10 ⟨rfl,hok2,hc10⟩
       have H2:=hide hok2
       have HC10:=hide (HCH.out.trans hc10)
       clear hok2 hc10 HWO
       go_wp2
       go_roundw
       case rel=>exact ⟨j+(tx.size),k+1,by have:=HTS.out;have:=HJ.out;omega,by have:=HKJ.out;omega,congrArg Value.string (tx_drop HTX.out HJ.out (tx.size) (tx_end tx)),by go_num,H2.out,HC10.out⟩
       case measure=>have:=HKJ.out;have:=HTS.out;have:=HJ.out;simp[intOf,strLen];omega
      ·have j2:¬ (100:Int)<(k:Int):=by omega
       have HWO:=hide (show Calls Tryz.prog 50 #[.pointer (some ⟨wb,0,none⟩),.string ByteArray.empty] w9 (WroteN wb sk g key text hd j (0) w9) from piece_call HTX.out ByteArray.empty (0) (by exact tx_none tx) (write_okN (0) HOK.out HKY.out HX.out (by have:=HTS.out;have:=HJ.out;omega) HNE.out.1 HNE.out.2.1 HNE.out.2.2))
       clear HOK
       go_wp2_with fail
       refine HWO.out.mono ?_
       rintro e w10 ⟨rfl,hok2,hc10⟩
       have H2:=hide hok2
       have HC10:=hide (HCH.out.trans hc10)
       clear hok2 hc10 HWO
       go_wp2
       go_roundw
       case rel=>exact ⟨j+(0),k+1,by have:=HTS.out;have:=HJ.out;omega,by have:=HKJ.out;omega,congrArg Value.string (tx_drop HTX.out HJ.out (0) ((tx_all tx).symm)),by go_num,H2.out,HC10.out⟩
       case measure=>have:=HKJ.out;have:=HTS.out;have:=HJ.out;simp[intOf,strLen];omega
     ·have z0:((n:Int)==0)=false:=beq_eq_false_iff_ne.2 (by omega)
      have hle:n≤tx.size:=by omega
      have HWO:=hide (show Calls Tryz.prog 50 #[.pointer (some ⟨wb,0,none⟩),.string (tx.extract 0 n)] w9 (WroteN wb sk g key text hd j (n) w9) from piece_call HTX.out (tx.extract 0 n) (n) (by exact rfl) (write_okN (n) HOK.out HKY.out HX.out (by have:=HTS.out;have:=HJ.out;omega) HNE.out.1 HNE.out.2.1 HNE.out.2.2))
      clear HOK
      go_wp2_with fail
      refine HWO.out.mono ?_
      rintro e w10 ⟨rfl,hok2,hc10⟩
      have H2:=hide hok2
      have HC10:=hide (HCH.out.trans hc10)
      clear hok2 hc10 HWO
      go_wp2
      go_roundw
      case rel=>exact ⟨j+(n),k+1,by have:=HTS.out;have:=HJ.out;omega,by have:=HKJ.out;omega,congrArg Value.string (tx_drop HTX.out HJ.out (n) (rfl)),by go_num,H2.out,HC10.out⟩
      case measure=>have:=HKJ.out;have:=HTS.out;have:=HJ.out;simp[intOf,strLen];omega
   ·have j0:¬ (0:Int)<(tx.size:Int):=by omega
    have hk2:k<2:=by omega
    have jk:(k:Int)<2:=by omega
    go_wp2_with fail
    refine (HPK.out _).mono ?_
    rintro e w9 ⟨n,hn,rfl,rfl⟩
    clear HPK
    by_cases hnm:tx.size<n
    ·have j1:(tx.size:Int)<(n:Int):=by omega
     have HWO:=hide (show Calls Tryz.prog 50 #[.pointer (some ⟨wb,0,none⟩),.string tx] w9 (WroteN wb sk g key text hd j (tx.size) w9) from piece_call HTX.out tx (tx.size) (by exact tx_all tx) (write_okN (tx.size) HOK.out HKY.out HX.out (by have:=HTS.out;have:=HJ.out;omega) HNE.out.1 HNE.out.2.1 HNE.out.2.2))
     clear HOK
     go_wp2_with fail
     refine HWO.out.mono ?_
     rintro e w10 ⟨rfl,hok2,hc10⟩
     have H2:=hide hok2
     have HC10:=hide (HCH.out.trans hc10)
     clear hok2 hc10 HWO
     go_wp2
     go_roundw
     case rel=>exact ⟨j+(tx.size),k+1,by have:=HTS.out;have:=HJ.out;omega,by have:=HKJ.out;omega,congrArg Value.string (tx_drop HTX.out HJ.out (tx.size) (tx_end tx)),by go_num,H2.out,HC10.out⟩
     case measure=>have:=HKJ.out;have:=HTS.out;have:=HJ.out;simp[intOf,strLen];omega
    ·have j1:¬ (tx.size:Int)<(n:Int):=by omega
     have hn0:n=0:=by omega
     subst hn0
     have j2:¬ (100:Int)<(k:Int):=by omega
     have HWO:=hide (show Calls Tryz.prog 50 #[.pointer (some ⟨wb,0,none⟩),.string ByteArray.empty] w9 (WroteN wb sk g key text hd j (0) w9) from piece_call HTX.out ByteArray.empty (0) (by exact tx_none tx) (write_okN (0) HOK.out HKY.out HX.out (by have:=HTS.out;have:=HJ.out;omega) HNE.out.1 HNE.out.2.1 HNE.out.2.2))
     clear HOK
     go_wp2_with fail
     refine HWO.out.mono ?_
     rintro e w10 ⟨rfl,hok2,hc10⟩
     have H2:=hide hok2
     have HC10:=hide (HCH.out.trans hc10)
     clear hok2 hc10 HWO
     go_wp2
     go_roundw
     case rel=>exact ⟨j+(0),k+1,by have:=HTS.out;have:=HJ.out;omega,by have:=HKJ.out;omega,congrArg Value.string (tx_drop HTX.out HJ.out (0) ((tx_all tx).symm)),by go_num,H2.out,HC10.out⟩
     case measure=>have:=HKJ.out;have:=HTS.out;have:=HJ.out;simp[intOf,strLen];omega
  ·have hte:tx=ByteArray.empty:=ba_ext (by
    have h0:tx.data.toList.length=0:=by rw[ba_len];omega
    rw[List.eq_nil_of_length_eq_zero h0]
    rfl)
   have jk:¬ (k:Int)<2:=by omega
   have z2:decide ((k:Int)<2)=false:=decide_eq_false jk
   have hjx:j=text.size:=by have:=HTS.out;have:=HJ.out;omega
   have HCL:=hide (close_okN (by have h:=HOK.out;rw[hjx] at h;exact h) HKY.out HX.out HNE.out.1)
   clear HOK hjx HPI hgo
   subst hte
   go_wp2_with fail
   refine HCL.out.mono ?_
   rintro e w10 ⟨rfl,hW,hS,hc10⟩
   have HC10:=hide (HCH.out.trans hc10)
   have HCE:=hide (close_end wb 14 w10 hW (by decide))
   have HWE:=hide (fun m=>write_end wb 14 ⟨#[120]⟩ (w10.drewN m) (Blk.drewN hW m) (by decide))
   obtain ⟨K,hS,hg⟩:=hS
   have HS:=hide (And.intro hS hg)
   clear hW hS hg hc10 HCL
   go_wp2_with fail
   refine HCE.out.mono ?_
   rintro e w11 ⟨rfl,m1,rfl⟩
   clear HCE
   go_wp2_with fail
   refine (HWE.out m1).mono ?_
   rintro e w12 ⟨rfl,m2,rfl⟩
   clear HWE
   go_wp2
   go_ret
   exact ⟨rfl,⟨K,Blk.drewN HS.out.1 (m1+m2),HS.out.2⟩,HC10.out.trans (Chg.of_below (below_drewN (Below.refl _ _) (m1+m2)))⟩
theorem Strs.chg {S:Nat→Prop} {w w':World} {v:Value} {l:List ByteArray} (h:Strs w v l) (hC:Chg S w w') (hb:∀ g o n c,v = .slice (some ⟨g,o,none⟩) n c→0<l.length→¬ S g):Strs w' v l:=by
 have hlt:=h.blt
 rcases h with h | ⟨g,o,c,rfl,hc⟩
 ·exact .inl h
 ·refine .inr ⟨g,o,c,rfl,fun i x hx=>?_⟩
  have hl:0<l.length:=Nat.lt_of_le_of_lt (Nat.zero_le i) (List.getElem?_eq_some_iff.1 hx).1
  have h1:=hC.block g (hlt g o _ c rfl hl) (hb g o _ c rfl hl)
  have h2:=hc i x hx
  unfold World.cell? at h2 ⊢
  rw[h1]
  exact h2
theorem FlS.chg {S:Nat→Prop} {w:World} {v:Value} {l:List ByteArray} {wi wj:World} (h:FlS w v l wi) (hC:Chg S wi wj) (hS:∀ k,S k→w.heap.size≤k) (hv:∀ g o n c,v = .slice (some ⟨g,o,none⟩) n c→0<l.length→¬ S g):FlS w v l wj:=
 ⟨h.two,hC.tabs h.tabs (fun e=>by have:=hS 0 e;have:=h.two;omega) (fun e=>by have:=hS 1 e;have:=h.two;omega),h.strs.chg hC hv,h.be.trans ⟨hC.os,hC.tape,hC.output,hC.size,fun k hk=>hC.block k (Nat.lt_of_lt_of_le hk h.be.size) (fun e=>by have:=hS k e;omega)⟩⟩
def restB:ByteArray:=⟨#[114,101,115,116]⟩
def MadeP (text:ByteArray) (w:World) (e:Ending) (w':World):Prop:=∃ fb v vb l d,e = .returned (.tuple #[.pointer (some ⟨fb,0,none⟩),.bool true])∧w.heap.size≤fb∧1≤l.length∧l.length≤3∧(∀ m ∈ l,m.size=32)∧d.size=16*(l.length+2)∧FileR fb v vb l d text (fileB l d text) (Ref.head l d 0) (Ref.pkey l d 0) w'∧Below w.heap.size w w'∧Tabs w'
theorem made_start {l:List ByteArray} {d:ByteArray} (text:ByteArray) (hd:d.size=16*(l.length+2)) (h1:1≤l.length) (h3:l.length≤3) (hm:∀ m ∈ l,m.size=32) {wb sk g:Nat} {w:World} (hR:WRep wb sk g (Ref.pkey l (d++restB) 0) ⟨0,[],Ref.newK l (d++restB) 0 ⟨⟨#[]⟩,[],0⟩⟩ w):
  OkN wb sk g (Ref.pkey l d 0) text ((Ref.head l d 0).data.toList++(Ref.pdraw l d 0).data.toList) 0 w:=by
 have hz:(d++restB).size=d.size+4:=ba_sz _ _
 have hE:Ref.beginE l (d++restB) 0=0:=Ref.begin_good h1 h3 hm (by omega)
 obtain ⟨f1,f2,f3,f4,f5⟩:=file_left l d restB hd text.data.toList
 have hok:∀ (k:Snk) t,k.plan=[]→k.ok t=true:=fun k t h=>Snk.ok_nil h t
 have hne:Ref.newE l (d++restB) 0 ⟨⟨#[]⟩,[],0⟩=0:=by
  rw[Ref.newE_eq hE,if_neg (by rw[hok _ _ rfl];simp)]
  unfold Snk.err
  rw[hok _ _ rfl]
  rfl
 have hG:=Ref.new_good hE (k:=⟨⟨#[]⟩,[],0⟩) rfl text.data.toList hne
 obtain ⟨r1,r2,r3⟩:=Ref.new_room (k:=⟨⟨#[]⟩,[],0⟩) hE rfl rfl
 rw[f2,f3,f4] at hG
 rw[f3] at hR
 exact ⟨_,hR,hG,Nat.zero_le _,r1,r2,r3⟩
theorem made_zero {l:List ByteArray} {d:ByteArray} (hd:d.size=16*(l.length+2)) (h1:1≤l.length) (h3:l.length≤3) (hm:∀ m ∈ l,m.size=32):Ref.newE l (d++restB) 0 ⟨⟨#[]⟩,[],0⟩=0∧Ref.beginP l (d++restB) 0=d.size:=by
 have hz:(d++restB).size=d.size+4:=ba_sz _ _
 have hE:Ref.beginE l (d++restB) 0=0:=Ref.begin_good h1 h3 hm (by omega)
 have hok:∀ (k:Snk) t,k.plan=[]→k.ok t=true:=fun k t h=>Snk.ok_nil h t
 have hc:Ref.chkM l=0:=by
  unfold Ref.beginE at hE
  by_cases hc:Ref.chkM l=0
  ·exact hc
  ·rw[if_pos hc] at hE;exact absurd hE hc
 refine ⟨?_,?_⟩
 ·rw[Ref.newE_eq hE,if_neg (by rw[hok _ _ rfl];simp)]
  unfold Snk.err
  rw[hok _ _ rfl]
  rfl
 ·unfold Ref.beginP canDraw
  rw[if_neg (by rw[hc];simp),hz]
  omega
set_option maxRecDepth 100000 in
set_option maxHeartbeats 3200000 in
theorem made_any (text who:ByteArray) (turn c:Int) (w:World) (ht:Tabs w) (hx:text.size≤268435456) (hw:who.size≤9223372036854775807) (t1 : -9223372036854775808≤turn) (t2:turn≤9223372036854775807) (c1 : -9223372036854775808≤c) (c2:c≤9223372036854775807):
  Calls Tryz.prog 7 #[.string text,.string who,.int .i64 turn,.int .i64 c] w (MadeP text w):=by
 have HMS:=hide (masters_any who w hw)
 have HDR:=hide (fun n w hn=>draws_any c n w c1 c2 hn)
 have HX:=hide hx
 have HT:=hide ht
 have HTR:=hide (And.intro t1 t2)
 clear ht hx hw t1 t2 c1 c2
 go_enter Tryz.func7,Tryz.ntmps7
 go_wp2_with fail
 refine HMS.out.mono ?_
 rintro e w1 ⟨v,rfl,l,hr,_,h1,h3,hm,hb1⟩
 have F1:=hide (show FlS w v l w1 from ⟨HT.out.two,HT.out.after hb1,Row.strs hr,hb1⟩)
 have HM:=hide (And.intro h1 (And.intro h3 hm))
 obtain ⟨ao,cap,rfl,hd1,hd2⟩:=Row.anyN hr
 clear hr hb1 hm HMS HT hd1 hd2
 obtain ⟨n,hn⟩:∃ n:Nat,l.length=n:=⟨_,rfl⟩
 rw[hn] at F1 h1 h3
 rw[hn]
 have HNN:=hide hn
 clear hn
 obtain ⟨n2,hn2⟩:∃ x:Nat,n+2=x:=⟨_,rfl⟩
 have tn:(n:Int)+2=(n2:Int):=by omega
 have HD1:=hide (HDR.out n2 w1 (by omega))
 have HN2:=hide hn2
 have n2b:n2≤5:=by omega
 clear HDR hn2
 go_wp2_with fail
 refine HD1.out.mono ?_
 rintro e w2 ⟨d,hds,rfl,hb2⟩
 have F2:=hide (F1.out.after hb2)
 have HDS:=hide (show d.size=16*(l.length+2) by rw[hds,←HN2.out,HNN.out])
 have hdz:d.size≤80:=by omega
 have u1:¬ (9223372036854775807<d.size+4):=by omega
 clear hb2 F1 HD1 hds tn
 obtain ⟨dr,hdr⟩:∃ x,d++(⟨#[114,101,115,116]⟩:ByteArray)=x:=⟨_,rfl⟩
 have hdrz:dr.size=d.size+4:=by rw[←hdr];exact ba_sz _ _
 have HDR:=hide (show d++restB=dr from hdr)
 go_wp2_with fail
 refine (springOf_any dr _).mono ?_
 rintro e w3 ⟨rfl,hB3,hb3⟩
 have F3:=hide (F2.out.after hb3)
 have HB3:=hide (show Blk w3 w2.heap.size 94 (springCells dr 0) from hB3)
 have A3:=hide (F2.out.apart (Nat.le_refl _))
 have hge2:=F2.out.be.size
 have hl3:=hB3.lt
 clear hb3 hB3 hdr
 go_wp2_with fail
 refine (sinkOf_nil _).mono ?_
 rintro e w4 ⟨sk,rfl,hsk,hG4,hS4,hb4⟩
 have F4:=hide (F3.out.after hb4)
 have HB4:=hide (HB3.out.below hb4 HB3.out.lt)
 have hl4:=hS4.lt
 have HNW:=hide (newWriter_any _ l w2.heap.size dr 0 sk w3.heap.size ⟨⟨#[]⟩,[],0⟩ w4 F4.out.tabs F4.out.strs A3.out (by rw[HNN.out];omega) HB4.out (Nat.le_trans F2.out.two F2.out.be.size) (Nat.zero_le _) (by omega) hS4 hG4 (by omega) (by omega) (by omega) (by show 0+3000<_;decide) (by show 0+10<_;decide))
 have hG4':=hG4
 have hMZ:=made_zero HDS.out HM.out.1 HM.out.2.1 HM.out.2.2
 rw[HDR.out] at hMZ
 have HG4:=hide hG4
 clear hb4 hS4 hG4 hG4' HB3 HB4 F3
 go_wp2_with fail
 refine HNW.out.mono ?_
 rintro e w5 ⟨pv,rfl,_,hn2,hS5,hB5,hC5⟩
 obtain ⟨wb,hwb,rfl,hWb⟩:=hn2 hMZ.1
 rw[hMZ.1]
 rw[hMZ.2] at hB5
 have hR5:WRep wb sk w3.heap.size (Ref.pkey l dr 0) ⟨0,[],Ref.newK l dr 0 ⟨⟨#[]⟩,[],0⟩⟩ w5:=by
  refine ⟨⟨nought 16,rfl,rfl,hWb⟩,Nat.zero_le _,hS5,?_⟩
  have h:=hC5.blk HG4.out (fun e=>by omega)
  have hE:Ref.beginE l dr 0=0:=Ref.begin_good HM.out.1 HM.out.2.1 HM.out.2.2 (by have:=HDS.out;omega)
  rw[(Ref.new_room (k:=⟨⟨#[]⟩,[],0⟩) hE rfl rfl).2.2]
  exact h
 rw[←HDR.out] at hR5
 have HO5:=hide (made_start text HDS.out HM.out.1 HM.out.2.1 HM.out.2.2 hR5)
 have F5:=hide (F4.out.chg hC5 (fun k hk=>by omega) (fun g o n c e hl=>by
  have:=A3.out g o n c e hl
  have:=F2.out.strs.blt g o n c e hl
  omega))
 have HB5:=hide hB5
 have hwl5:=hWb.lt
 clear hn2 hS5 hB5 hC5 hWb hR5 HNW HG4 F4
 have HWR:=hide (written_any wb sk w3.heap.size _ text _ turn w5 HO5.out (Ref.pkey_size _ _ _) HX.out HTR.out.1 HTR.out.2 (by omega) (by omega) (by omega))
 go_wp2_with fail
 refine HWR.out.mono ?_
 rintro e w6 ⟨rfl,⟨k6,hS6,hgot⟩,hC6⟩
 have F6:=hide (F5.out.chg hC6 (fun k hk=>by omega) (fun g o n c e hl=>by
  have:=F2.out.strs.blt g o n c e hl
  omega))
 have hB6:=hC6.blk HB5.out (fun e=>by omega)
 have x0:=hB6.cell (i:=0) rfl
 have x1:=hB6.cell (i:=1) rfl
 have hle:IntKind.i64.wrap ((dr.size:Int)-(d.size:Int))=4:=(IntWalk.i64_in _ (by omega)).trans (by omega)
 have HLF:=hide (springLeft_any w2.heap.size dr (d.size:Nat) w6 x0 x1)
 rw[hle] at HLF
 have hg2:k6.got=fileB l d text:=hgot
 have HGT:=hide (fun m=>sinkGot_any sk k6.got (w6.drewN m) ((Blk.drewN hS6 m).cell (i:=0) rfl))
 rw[hg2] at HGT
 have hsk6:w2.heap.size<w6.heap.size:=hB6.lt
 clear hS6 hgot hC6 HWR HO5 HB5 hB6 x0 x1 hle hg2 F5
 go_wp2_with fail
 refine HLF.out.mono ?_
 rintro e w7 ⟨rfl,m7,rfl⟩
 have F7:=hide (F6.out.after (below_drewN (Below.refl _ _) m7))
 have HG7:=hide (HGT.out m7)
 have hw7:w2.heap.size<(w6.drewN m7).heap.size:=hsk6
 generalize w6.drewN m7=w7 at *
 clear HLF HGT F6 hsk6
 have HFF:=hide (file_facts l d text HM.out.1 HM.out.2.1 HDS.out)
 have HKN:=hide (known_any _ l d text (fileB l d text) _ _ _ _ _ _ _ l.length w7 F7.out.tabs F7.out.strs HM.out.1 HM.out.2.1 HM.out.2.2 HDS.out HX.out HFF.out)
 have HEN:=hide (fun b (w':World) hf hb hge hv=>encrypt_any (.slice ao n cap) l b d 0 text w' (FlS.tabs (w:=w) hf) (FlS.strs hf) hv (by rw[HNN.out];omega) hb (Nat.le_trans F2.out.two hge) (Nat.zero_le _) (by omega) (by have:=HX.out;omega))
 have hE:Ref.beginE l d 0=0:=Ref.begin_good HM.out.1 HM.out.2.1 HM.out.2.2 (by have:=HDS.out;omega)
 have HE:=hide hE
 have HFB:=hide (show fileB l d text=⟨(Ref.file l d 0 text.data.toList).toArray⟩ from rfl)
 generalize fileB l d text=BF at *
 clear hE
 go_wp2_with fail
 refine HG7.out.mono ?_
 rintro e w8 ⟨rfl,rfl⟩
 clear HG7
 go_wp2_with fail
 refine HKN.out.mono ?_
 rintro e w9 ⟨vb,rfl,hR9,hb9⟩
 have F9:=hide (F7.out.after hb9)
 have R9:=hide hR9
 have hsz9:=hb9.size
 have hge7:=F7.out.be.size
 clear HKN hR9 hb9
 go_wp2_with fail
 refine (springOf_any d _).mono ?_
 rintro e w10 ⟨rfl,hB10,hb10⟩
 have F10:=hide (F9.out.after hb10)
 have R10:=hide (FileR.mk (R9.out.blk.below hb10 R9.out.blk.lt) (R9.out.ms.after hb10) (R9.out.bx.after hb10))
 have A10:=hide (F9.out.apart (Nat.le_refl _))
 have A11:=hide (fun g o n c (e:vb = .slice (some ⟨g,o,none⟩) n c) hl=>Nat.ne_of_lt (R9.out.bx.blt g o n c e hl))
 have hf9:=R9.out.blk.lt
 have HEC:=hide (HEN.out w9.heap.size w10 F10.out hB10 (by omega) A10.out)
 clear hb10 hB10 F9 R9 HEN
 go_wp2_with fail
 refine HEC.out.mono ?_
 rintro e w11 ⟨rfl,_,hG11⟩
 rw[HE.out,if_pos rfl,←HFB.out]
 have F11:=hide (F10.out.grown hG11 (by omega) A10.out)
 have R11:=hide (FileR.mk (R10.out.blk.grown hG11 (fun e=>by injection e with e;omega)) (R10.out.ms.grown hG11 A10.out) (R10.out.bx.grown hG11 A11.out))
 clear hG11 HEC F10 R10 A10 A11
 go_wp2
 refine bodyPost_ret (results_tmp2 rfl _ _ _) rfl ?_
 exact ⟨w8.heap.size,.slice ao n cap,vb,l,d,rfl,hge7,HM.out.1,HM.out.2.1,HM.out.2.2,HDS.out,by rw[HFB.out] at R11;exact R11.out,F11.out.be,F11.out.tabs⟩
namespace Ref
theorem boxN_nums (L:Nat):(L=0→boxN L=0)∧32*boxN L<L+32∧L≤32*boxN L:=by
 unfold boxN
 omega
def Stands (key L:List UInt8) (i:Nat) (c:List UInt8):Prop:=i<boxN L.length∧Box.sealed key (nonce i (decide (i+1=boxN L.length))) [] c=boxI L i
structure Tell (key L:List UInt8) (r:Rd) (out:List UInt8) (k:Nat):Prop where
 e:r.e=0
 text:r.text=[]
 ky:r.key=key
 n:r.n=k
 rem:r.rem=L.drop (32*k)
 ahead:r.ahead.length≤1
 at_:r.x.at_≤r.x.s.size
 calm:Src.Calm r.x.plan
 len:out.length=16*k
 st:∀ i,i<k→Stands key L i (chunkL out i)
structure Told (key L out:List UInt8) (e:Int):Prop where
 bad:e≠13→∃ k,out.length=16*k∧∀ i,i<k→Stands key L i (chunkL out i)
 fin:e=13→∃ N,N+1=boxN L.length∧16*N≤out.length∧out.length≤16*N+16∧(0<N→16*N<out.length)∧∀ i,i≤N→Stands key L i (chunkL out i)
theorem chunkL_app (a c:List UInt8) (i:Nat) (h:16*i+16≤a.length):chunkL (a++c) i=chunkL a i:=by
 unfold chunkL
 rw[List.drop_append_of_le_length (by omega),List.take_append_of_le_length (by rw[List.length_drop];omega)]
theorem chunkL_end (a c:List UInt8) (i:Nat) (h:a.length=16*i) (hc:c.length≤16):chunkL (a++c) i=c:=by
 unfold chunkL
 rw[←h,List.drop_left,List.take_of_length_le hc]
set_option maxHeartbeats 800000 in
theorem Tell.next {key L out:List UInt8} {r r1:Rd} {k:Nat} (h:Tell key L r out k) (hf:Rd.Fill r r1):
  (r1.text=[]∧r1.e≠0∧Told key L out r1.e)∨(r1.text≠[]∧r1.text.length≤16∧r1.e=13∧Told key L (out++r1.text) 13)∨(r1.text≠[]∧r1.text.length≤16∧Tell key L (r1.tell 16) (out++r1.text) (k+1)):=by
 have hx:=Rd.next hf h.text h.e h.ahead h.at_ h.calm
 have hrl:r.rem.length=L.length-32*k:=by rw[h.rem,List.length_drop]
 have hN:=boxN_nums L.length
 have hlen:=h.len
 by_cases h0:r.rem=[]
 ·obtain ⟨e1,e2⟩:=hx.none h0
  refine .inl ⟨e1,by rw[e2];decide,⟨fun _=>⟨k,h.len,h.st⟩,fun e=>?_⟩⟩
  rw[e2] at e
  exact absurd e (by decide)
 ·have hp:=List.length_pos_iff.2 h0
  by_cases h1:r.rem.length≤32
  ·have hk1:k+1=boxN L.length:=by omega
   have hbx:boxI L k=r.rem:=by
    unfold boxI
    rw[←h.rem,List.take_of_length_le h1]
   obtain ⟨_,⟨c1,c2,c3⟩ | ⟨c1,c2,c3⟩⟩:=hx.last h0 h1
   ·refine .inl ⟨c2,by rw[c3];exact c1,⟨fun _=>⟨k,h.len,h.st⟩,fun e=>?_⟩⟩
    rw[c3] at e
    rcases opnC_num r.key r.n true r.rem with q | q | ⟨_,q | q⟩ | ⟨q,_⟩
    ·exact absurd q c1
    ·rw[q] at e;exact absurd e (by decide)
    ·rw[q] at e;exact absurd e (by decide)
    ·rw[q] at e;exact absurd e (by decide)
    ·cases q
   ·rcases opnC_cases r.key r.n true r.rem with ⟨_,d1,d2,d3⟩ | ⟨d0,_⟩
    ·rw[←c2] at d1 d2 d3
     rw[h.ky,h.n] at d2
     have hst:∀ i,i≤k→Stands key L i (chunkL (out++r1.text) i):=by
      intro i hi
      rcases Nat.eq_or_lt_of_le hi with e | e
      ·subst e
       rw[chunkL_end out r1.text i hlen (by omega)]
       exact ⟨by omega,by rw[decide_eq_true hk1,hbx];exact d2⟩
      ·rw[chunkL_app out _ i (by omega)]
       exact h.st i e
     have hT:Told key L (out++r1.text) 13:=by
      refine ⟨fun e=>absurd rfl e,fun _=>⟨k,hk1,by rw[List.length_append];omega,by rw[List.length_append];omega,fun hk=>?_,hst⟩⟩
      have:=List.length_pos_iff.2 (d3 rfl (by rw[h.n];exact hk))
      rw[List.length_append]
      omega
     by_cases ht:r1.text=[]
     ·rw[ht,List.append_nil] at hT
      exact .inl ⟨ht,by rw[c3];decide,by rw[c3];exact hT⟩
     ·exact .inr (.inl ⟨ht,by omega,c3,hT⟩)
    ·exact absurd c1 d0
  ·have hk1:k+1<boxN L.length:=by omega
   have hbx:boxI L k=r.rem.take 32:=by
    unfold boxI
    rw[←h.rem]
   rcases hx.more (by omega) with ⟨c1,c2,c3⟩ | ⟨c1,c2,c3,c4,c5,c6,c7⟩
   ·refine .inl ⟨c2,by rw[c3];exact c1,⟨fun _=>⟨k,h.len,h.st⟩,fun e=>?_⟩⟩
    rw[c3] at e
    rcases opnC_num r.key r.n false (r.rem.take 32) with q | q | ⟨q,_⟩ | ⟨_,q⟩
    ·exact absurd q c1
    ·rw[q] at e;exact absurd e (by decide)
    ·cases q
    ·rw[q] at e;exact absurd e (by decide)
   ·rcases opnC_cases r.key r.n false (r.rem.take 32) with ⟨_,d1,d2,_⟩ | ⟨d0,_⟩
    ·rw[←c2] at d1 d2
     rw[List.length_take] at d1
     rw[h.ky,h.n] at d2
     have hl16:r1.text.length=16:=by omega
     refine .inr (.inr ⟨(fun e=>by rw[e] at hl16;cases hl16),by omega,⟨c3,?_,by show r1.key=_;rw[c4,h.ky],by show r1.n=_;rw[c5,h.n],?_,by show r1.ahead.length≤1;omega,by show r1.x.at_≤r1.x.s.size;exact hx.at_,by show Src.Calm r1.x.plan;rw[hx.plan];exact h.calm,by rw[List.length_append];omega,?_⟩⟩)
     ·show r1.text.drop 16=[]
      exact List.drop_eq_nil_of_le (by omega)
     ·show r1.rem=_
      rw[c6,h.rem,List.drop_drop]
      congr 1
     ·intro i hi
      rcases Nat.eq_or_lt_of_le (Nat.le_of_lt_succ hi) with e | e
      ·subst e
       rw[chunkL_end out r1.text i hlen (by omega)]
       exact ⟨by omega,by rw[decide_eq_false (by omega),hbx];exact d2⟩
      ·rw[chunkL_app out _ i (by omega)]
       exact h.st i e
    ·exact absurd c1 d0
structure Shows (key L out:List UInt8) (fin:Bool) (K:Nat):Prop where
 cond:∀ i,(16*i<out.length∨(fin=true∧i=0))↔i<K
 st:∀ i,i<K→Stands key L i (chunkL out i)
 all:fin=true→K=boxN L.length∧(1<K→16*(K-1)<out.length)
theorem Told.shows {key L out:List UInt8} {e:Int} (h:Told key L out e):∃ K,Shows key L out (decide (e=13)) K:=by
 by_cases he:e=13
 ·obtain ⟨N,h1,h2,h3,h4,h5⟩:=h.fin he
  refine ⟨N+1,⟨fun i=>?_,fun i hi=>h5 i (by omega),fun _=>⟨h1,fun hk=>by simpa using h4 (by omega)⟩⟩⟩
  rw[decide_eq_true he]
  constructor
  ·rintro (q | ⟨_,q⟩) <;> omega
  ·intro q
   by_cases hi:i=0
   ·exact .inr ⟨rfl,hi⟩
   ·left
    by_cases hiN:i=N
    ·subst hiN;exact h4 (by omega)
    ·omega
 ·obtain ⟨k,h1,h2⟩:=h.bad he
  refine ⟨k,⟨fun i=>?_,h2,fun q=>?_⟩⟩
  ·rw[decide_eq_false he]
   constructor
   ·rintro (q | ⟨q,_⟩)
    ·omega
    ·cases q
   ·intro q;left;omega
  ·rw[decide_eq_false he] at q
   cases q
theorem sealed_inj {key n aad a b:List UInt8} (h:Box.sealed key n aad a=Box.sealed key n aad b):a=b:=by
 have e1:=Box.opened_sealed key n aad a
 rw[h,Box.opened_sealed] at e1
 exact (congrArg Prod.fst e1).symm
theorem chunks_take (a b:List UInt8):∀ K,(∀ i,i<K→chunkL a i=chunkL b i)→a.take (16*K)=b.take (16*K)
 | 0,_=>rfl
 | K+1,h=>by
  have e:=chunks_take a b K (fun i hi=>h i (by omega))
  have e2:=h K (by omega)
  unfold chunkL at e2
  rw[show 16*(K+1)=16*K+16 by omega,List.take_add,List.take_add,e,e2]
theorem Shows.logged {key L out text:List UInt8} {fin:Bool} {K:Nat} (h:Shows key L out fin K) (hk:key.length=32) (hs:∀ i,i<K→i≤full text.length∧boxI (encF key text) i=boxI L i∧(i=full text.length↔i+1=boxN L.length)):out=text.take out.length∧(fin=true→out=text):=by
 have hch:∀ i,i<K→chunkL out i=chunkL text i:=by
  intro i hi
  obtain ⟨s1,s2,s3⟩:=hs i hi
  have hb:=encF_box hk text i s1
  obtain ⟨_,st⟩:=h.st i hi
  rw[←s2,hb] at st
  unfold box at st
  rw[if_pos hk] at st
  have hd:decide (i+1=boxN L.length)=decide (i=full text.length):=decide_eq_decide.2 s3.symm
  rw[hd] at st
  exact sealed_inj st
 have ht:=chunks_take out text K hch
 have hol:out.length≤16*K:=by
  rcases Nat.lt_or_ge (16*K) out.length with q | q
  ·have:=(h.cond K).1 (.inl q);omega
  ·exact q
 rw[List.take_of_length_le hol] at ht
 have hfn:=full_nums text.length
 refine ⟨?_,fun hf=>?_⟩
 ·have e:=congrArg List.length ht
  rw[List.length_take] at e
  rw[e]
  conv=>lhs;rw[ht]
  rw[←List.take_eq_take_min]
 ·obtain ⟨k1,_⟩:=h.all hf
  have hk0:0<K:=(h.cond 0).1 (.inr ⟨hf,rfl⟩)
  obtain ⟨s1,s2,s3⟩:=hs (K-1) (by omega)
  have:=s3.2 (by omega)
  rw[ht,List.take_of_length_le (by omega)]
end Ref
structure Paid (m:List UInt8) (b:ByteArray) (H:ByteArray) (ss bs:List ByteArray) (mac:ByteArray) (fk key:List UInt8):Prop where
 ok:Hd.Ok ss bs mac
 par:Hd.parAns H=(⟨ss,bs,mac⟩,0)
 hs:45≤H.size∧H.size≤284
 hb:H.size+16≤b.size
 e0:b.extract 0 H.size=H
 top:Hd.wholeAt b.data.toList (H.size-1)∧Hd.noneTo b.data.toList (H.size-1)
 unw:Ref.unwA m ss bs=(fk,0)
 mc:macL (Ref.keyL fk [] Ref.inHead) (H.data.toList.take (H.size-45))=mac.data.toList
 key:key=Ref.keyL fk (b.extract H.size (H.size+16)).data.toList Ref.inBody
theorem Paid.topO {m:List UInt8} {b H:ByteArray} {ss bs:List ByteArray} {mac:ByteArray} {fk key:List UInt8} (P:Paid m b H ss bs mac fk key) {r:Int} (h:TopO b.data.toList r):r=(H.size:Int):=by
 obtain ⟨t1,t2⟩:=P.top
 have hs:=P.hs
 have hz:=P.hb
 rcases h with ⟨k,_,_,hw,hno,rfl⟩ | ⟨hno,_⟩
 ·rcases Nat.lt_trichotomy k (H.size-1) with h | h | h
  ·exact absurd hw (t2 k h)
  ·omega
  ·exact absurd t1 (hno _ h)
 ·exact absurd t1 (hno _ (by rw[ba_len];omega))
theorem new_paid {m:List UInt8} {b:ByteArray} {x z:Src} {key:List UInt8} (hxs:x.s=b) (hxa:x.at_=0) (h:Ref.New m x z 0 key):∃ H ss bs mac fk,Paid m b H ss bs mac fk key∧z.at_=H.size+16∧z.s=b∧z.plan=x.plan:=by
 have hr:x.rest=b.data.toList:=by unfold Src.rest;rw[hxs,hxa];rfl
 have hx0:x.at_≤x.s.size:=by omega
 generalize hk:(0:Int)=k0 at h
 cases h using Ref.New.elim with
 | len h=>cases hk
 | src y j _ ht=>cases hk
 | top y j c _ ht _ ho=>exact absurd hk.symm ho
 | cut y j c z d _ ht _ _ ha hd=>
  split at hk <;> cases hk
 | ok y j c z _ ht _ ho ha=>
  have L:=ht.left hx0
  have L2:=ha.left L.size
  have hall:=L2.all rfl
  have hat:=L.at_
  have hjl:=L.le (Nat.zero_le _)
  have hys:y.s=b:=by rw[L.s,hxs]
  have hzz:=L2.size
  have hzs:z.s=b:=by rw[L2.s,hys]
  rw[hzs] at hzz
  have hjb:j+16≤b.size:=by omega
  obtain ⟨H,hH⟩:∃ H,topS x j=H:=⟨_,rfl⟩
  have hHe:b.extract 0 j=H:=by rw[←hH];unfold topS;rw[hxs,hxa,Nat.zero_add]
  have hHs:H.size=j:=by rw[←hHe,ByteArray.size_extract];omega
  rw[hH] at ho ⊢
  rcases parAns_facts H with ⟨p1,_⟩ | ⟨p1,p2,p3⟩
  ·unfold Ref.opnA at ho
   rw[if_pos p1] at ho
   exact absurd ho p1
  ·obtain ⟨⟨⟨ss,bs,mac⟩,e⟩,hp⟩:∃ q,Hd.parAns H=q:=⟨_,rfl⟩
   rw[hp] at p1 p2 p3
   obtain rfl:e=0:=p1
   have hoa:=opnA_ok (m:=m) hp
   rw[hoa] at ho ⊢
   have hHl:H.data.toList=Hd.text ss bs mac:=by rw[p3];rfl
   have htl:=p2.text_len
   have n0:=p2.n0
   have n3:=p2.n3
   change (Hd.text ss bs mac).length=59+75*ss.length at htl
   change ss.length≠0 at n0
   change ¬ 3<ss.length at n3
   have hHz:H.size=59+75*ss.length:=by rw[←ba_len,hHl];exact htl
   have htop:=p2.top (b.data.toList.drop j)
   change Hd.wholeAt (Hd.text ss bs mac++_) ((Hd.text ss bs mac).length-1)∧Hd.noneTo (Hd.text ss bs mac++_) ((Hd.text ss bs mac).length-1) at htop
   have hbl:Hd.text ss bs mac++b.data.toList.drop j=b.data.toList:=by
    have e:=sub_list b 0 j
    rw[hHe,hHl] at e
    rw[e]
    exact List.take_append_drop j b.data.toList
   rw[hbl,←hHl,ba_len] at htop
   unfold hdAns at ho ⊢
   by_cases hu:(Ref.unwA m ss bs).2≠0
   ·rw[if_pos hu] at ho
    exact absurd ho hu
   ·rw[if_neg hu] at ho ⊢
    by_cases hmc:macL (Ref.keyL (Ref.unwA m ss bs).1 [] Ref.inHead) (H.data.toList.take (H.size-45))≠mac.data.toList
    ·rw[if_pos hmc] at ho
     exact absurd ho (by decide)
    ·rw[if_neg hmc]
     refine ⟨H,ss,bs,mac,(Ref.unwA m ss bs).1,⟨p2,hp,by omega,by omega,by rw[hHs];exact hHe,htop,?_,Classical.not_not.1 hmc,?_⟩,by omega,hzs,by rw[L2.plan,L.plan]⟩
     ·exact Prod.ext rfl (Classical.not_not.1 hu)
     ·show Ref.keyL (Ref.unwA m ss bs).1 (topS y 16).data.toList Ref.inBody=_
      have e:topS y 16=b.extract H.size (H.size+16):=by unfold topS;rw[hys,hHs,show y.at_=j by omega]
      rw[e]
structure UV (w:World) (hb:Nat) (vs vb:Value) (mac:ByteArray) (ss bs:List ByteArray) (wi:World):Prop where
 hd:Blk wi hb 70 [vs,vb,.string mac]
 be:Below w.heap.size w wi
 tb:Tabs wi
 s1:Strs wi vs ss
 s2:Strs wi vb bs
theorem UV.after {w:World} {hb:Nat} {vs vb:Value} {mac:ByteArray} {ss bs:List ByteArray} {wi wj:World} (h:UV w hb vs vb mac ss bs wi) (hb2:Below wi.heap.size wi wj):UV w hb vs vb mac ss bs wj:=
 ⟨h.hd.below hb2 h.hd.lt,h.be.trans (hb2.mono h.be.size),h.tb.after hb2,h.s1.after hb2,h.s2.after hb2⟩
set_option maxRecDepth 100000 in
set_option maxHeartbeats 1600000 in
theorem unwrapped_any (master H:ByteArray) (hb:Nat) (vs vb:Value) (mac:ByteArray) (ss bs:List ByteArray) (fk:List UInt8) (w:World) (h0:UV w hb vs vb mac ss bs w) (hO:Hd.Ok ss bs mac) (hm:master.size=32) (hH:45≤H.size∧H.size≤284) (hu:Ref.unwA master.data.toList ss bs=(fk,0)) (hmc:macL (Ref.keyL fk [] Ref.inHead) (H.data.toList.take (H.size-45))=mac.data.toList):
  Calls Tryz.prog 76 #[.string master,.pointer (some ⟨hb,0,none⟩),.string H] w fun e w'=>e = .returned (.tuple #[.string ⟨fk.toArray⟩,.bool true])∧Below w.heap.size w w':=by
 have hn3:=hO.n3
 have H0:=hide h0
 obtain ⟨ao,cp,rfl⟩:=h0.s1.len
 obtain ⟨bo,dp,rfl⟩:=h0.s2.len
 obtain ⟨n,hnn⟩:∃ n:Nat,ss.length=n:=⟨_,rfl⟩
 have hll:bs.length=n:=by rw[hO.nb,hnn]
 have HNN:=hide hnn
 have HLL:=hide hll
 have HO:=hide hO
 have HA:=hide (show Ref.unw master.data.toList ss bs n 0=(fk,0) by unfold Ref.unwA at hu;rw[hnn] at hu;exact hu)
 rw[hll] at H0
 rw[hnn] at H0 hn3
 have HM:=hide hm
 obtain ⟨E,hE⟩:∃ E:Nat,H.size-45=E:=⟨_,rfl⟩
 have tE:(H.size:Int)-45=(E:Int):=by omega
 have jE:(E:Int)≤(H.size:Int):=by omega
 have hEb:E≤284:=by omega
 rw[hE,←ext_take] at hmc
 have HMC:=hide hmc
 have HHS:=hide hH
 clear h0 hO hu hmc hnn hll hm hE hH
 go_enter Tryz.func76,Tryz.ntmps76
 go_wp2
 go_loopw [8] (fun v wr=>∃ i:Nat,i≤n∧v = .int .i64 (i:Nat)∧UV w hb (.slice ao n cp) (.slice bo n dp) mac ss bs wr∧Ref.unw master.data.toList ss bs (n-i) i=(fk,0)) (fun v _=>n-(intOf v).toNat)
 case atStart=>exact ⟨0,Nat.zero_le _,rfl,H0.out,HA.out⟩
 case round=>
  clear H0 HA
  obtain ⟨i,hi,rfl,hu,hq⟩:=hrel
  have U:=hide hu
  have c0:=hu.hd.cell (i:=0) rfl
  have c1:=hu.hd.cell (i:=1) rfl
  by_cases hlt:i<n
  ·have jk:(i:Int)<(n:Int):=by omega
   obtain ⟨g,o,c,hv1,hgl,e1⟩:=hu.s1.at i (by rw[HNN.out];exact hlt)
   injection hv1 with hv1 hv1n hv1c
   clear hv1n
   subst hv1
   subst hv1c
   obtain ⟨g2,o2,c2,hv2,hgl2,e2⟩:=hu.s2.at i (by rw[HLL.out];exact hlt)
   injection hv2 with hv2 hv2n hv2c
   clear hv2n
   subst hv2
   subst hv2c
   have z1:=HO.out.hs i (by rw[HNN.out];exact hlt)
   have z2:=HO.out.hb i (by rw[HNN.out];exact hlt)
   have hbd:Ref.body master.data.toList ss bs i=Box.opened (Ref.keyL master.data.toList (ss.getD i ⟨#[]⟩).data.toList Ref.inWrap) (nought 12) [] (bs.getD i ⟨#[]⟩).data.toList:=rfl
   rw[show n-i=(n-(i+1))+1 by omega,Ref.unw,hbd] at hq
   have hlen:g<wr.heap.size∧g2<wr.heap.size:=⟨hgl,hgl2⟩
   generalize ss.getD i ⟨#[]⟩=sk at *
   generalize bs.getD i ⟨#[]⟩=bk at *
   have hm32:=HM.out
   have HK:=hide (kKey_any master sk ⟨#[119,114,97,112]⟩ wr (by omega) (by omega) (by decide) U.out.tb.k U.out.tb.h U.out.tb.two)
   rw[show (expO (macL sk.data.toList master.data.toList) (⟨#[119,114,97,112]⟩:ByteArray).data.toList 1).take 32=Ref.keyL master.data.toList sk.data.toList Ref.inWrap from rfl] at HK
   have hkz:(⟨(Ref.keyL master.data.toList sk.data.toList Ref.inWrap).toArray⟩:ByteArray).size=32:=by rw[two_size,Ref.keyL_len]
   have HOP:=hide (fun w=>openAt ⟨(Ref.keyL master.data.toList sk.data.toList Ref.inWrap).toArray⟩ ⟨(nought 12).toArray⟩ bk w hkz rfl (by omega))
   rw[two_toList,two_toList] at HOP
   have hoc:=Ref.opened_code (Ref.keyL master.data.toList sk.data.toList Ref.inWrap) (nought 12) [] bk.data.toList
   have hok:=Box.opened_ok (Ref.keyL master.data.toList sk.data.toList Ref.inWrap) (nought 12) [] bk.data.toList
   have hol:=@Ref.opened_len2 (Ref.keyL master.data.toList sk.data.toList Ref.inWrap) (nought 12) [] bk.data.toList
   have HSE:=hide (fun (t:List UInt8) (ht:t.length≤1000) w=>sealAt ⟨(Ref.keyL master.data.toList sk.data.toList Ref.inWrap).toArray⟩ ⟨(nought 12).toArray⟩ ⟨t.toArray⟩ w hkz rfl (by rw[two_size];omega))
   simp only at HSE
   have HKEQ:Hid ((⟨(Ref.keyL master.data.toList sk.data.toList Ref.inWrap).toArray⟩:ByteArray).data.toList=Ref.keyL master.data.toList sk.data.toList Ref.inWrap):=hide (two_toList _)
   generalize Box.opened (Ref.keyL master.data.toList sk.data.toList Ref.inWrap) (nought 12) [] bk.data.toList=op at *
   generalize Ref.keyL master.data.toList sk.data.toList Ref.inWrap=kl at *
   generalize (⟨kl.toArray⟩:ByteArray)=kk at *
   have HLT:=hide hlt
   clear hbd hkz hlt hi hu hm32 z1
   obtain ⟨ot,oe⟩:=op
   simp only at hoc HOP hq hok hol
   have HQ:=hide hq
   have HOK:=hide (And.intro hok hol)
   clear hq hok hol
   go_wp2_with fail
   refine HK.out.mono ?_
   rintro e w2 ⟨rfl,hb2⟩
   have U2:=hide (U.out.after hb2)
   have f2:=(hb2.cell hlen.2).trans e2
   have hgl22:=Nat.lt_of_lt_of_le hlen.2 hb2.size
   clear hb2 HK U c0 c1 e1 e2
   go_wp2_with fail
   refine (zeros_any _).mono ?_
   rintro e w3 ⟨rfl,hb3⟩
   have U3:=hide (U2.out.after hb3)
   have d1:=U3.out.hd.cell (i:=1) rfl
   have f3:=(hb3.cell hgl22).trans f2
   have hgl33:=Nat.lt_of_lt_of_le hgl22 hb3.size
   clear hb3 U2 f2
   go_wp2_with fail
   refine (HOP.out _).mono ?_
   rintro e w4 ⟨rfl,hb4⟩
   have U4:=hide (U3.out.after hb4)
   have f4:=(hb4.cell hgl33).trans f3
   have hgl44:=Nat.lt_of_lt_of_le hgl33 hb4.size
   clear hb4 HOP U3 d1 f3
   rcases hoc with rfl | rfl
   ·have hq0:=HQ.out
    rw[if_pos rfl] at hq0
    obtain rfl:ot=fk:=congrArg Prod.fst hq0
    have hsl:=HOK.out.1 rfl
    have hln:=HOK.out.2 rfl
    rw[ba_len,z2] at hln
    have HS4:=hide (fun w=>HSE.out ot (by omega) w)
    rw[hsl] at HS4
    rw[show (⟨bk.data.toList.toArray⟩:ByteArray)=bk from ba_ext rfl] at HS4
    have HK2:=hide (fun (w':World) (t:Tabs w')=>kKey_any ⟨ot.toArray⟩ ⟨#[]⟩ ⟨#[104,101,97,100,101,114]⟩ w' (by rw[two_size];omega) (by decide) (by decide) t.k t.h t.two)
    rw[show (expO (macL (⟨#[]⟩:ByteArray).data.toList (⟨ot.toArray⟩:ByteArray).data.toList) (⟨#[104,101,97,100,101,114]⟩:ByteArray).data.toList 1).take 32=Ref.keyL (⟨ot.toArray⟩:ByteArray).data.toList [] Ref.inHead from rfl,two_toList] at HK2
    have hbb:=HHS.out
    have HMA:=hide (fun (w':World) (t:Tabs w')=>hmac_any ⟨(Ref.keyL ot [] Ref.inHead).toArray⟩ (H.extract 0 E) w' (by rw[two_size,Ref.keyL_len];decide) (by rw[ByteArray.size_extract];omega) t.k t.h t.two)
    rw[two_toList,HMC.out,show (⟨mac.data.toList.toArray⟩:ByteArray)=mac from ba_ext rfl] at HMA
    generalize (⟨(Ref.keyL ot [] Ref.inHead).toArray⟩:ByteArray)=hk at *
    generalize hOT:(⟨ot.toArray⟩:ByteArray)=OT at *
    have HOT:=hide hOT
    clear hOT
    clear HSE hsl hln hq0 hbb HQ HOK HMC HKEQ
    go_wp2_with fail
    refine (HS4.out _).mono ?_
    rintro e w5 ⟨rfl,hb5⟩
    have U5:=hide (U4.out.after hb5)
    have f5:=(hb5.cell hgl44).trans f4
    have hgl55:=Nat.lt_of_lt_of_le hgl44 hb5.size
    have HK5:=hide (HK2.out w5 U5.out.tb)
    clear hb5 HS4 U4 f4 HK2
    go_wp2_with fail
    refine HK5.out.mono ?_
    rintro e w6 ⟨rfl,hb6⟩
    have U6:=hide (U5.out.after hb6)
    have f6:=(hb6.cell hgl55).trans f5
    have hgl66:=Nat.lt_of_lt_of_le hgl55 hb6.size
    have HM6:=hide (HMA.out w6 U6.out.tb)
    clear hb6 HK5 U5 f5 HMA
    go_wp2_with fail
    refine HM6.out.mono ?_
    rintro e w7 ⟨rfl,hb7⟩
    have U7:=hide (U6.out.after hb7)
    have f7:=(hb7.cell hgl66).trans f6
    have d1:=U7.out.hd.cell (i:=1) rfl
    have d2:=U7.out.hd.cell (i:=2) rfl
    clear hb7 HM6 U6 f6
    go_wp2
    go_quiet (fail)
    go_wp2
    refine bodyPost_ret (results_tmp2 rfl _ _ _) rfl ?_
    exact ⟨by rw[HOT.out];rfl,(U7.out.after (below_drewN (Below.refl _ _) _)).be⟩
   ·go_wp2
    go_roundw
    case rel=>
     have hq2:=HQ.out
     rw[if_neg (by decide)] at hq2
     exact ⟨i+1,HLT.out,by go_num,U4.out,hq2⟩
    case measure=>have:=HLT.out;simp[intOf];omega
  ·obtain rfl:i=n:=by omega
   rw[Nat.sub_self,Ref.unw] at hq
   exact absurd (show (7:Int)=0 from congrArg Prod.snd hq) (by decide)
theorem lastB (i n n1:Nat) (h:n1+1=n):((i:Int)==(n1:Int))=decide (i+1=n)∧decide (i=n1)=decide (i+1=n)∧(i==n1)=decide (i+1=n):=by
 by_cases h2:i+1=n
 ·have e:i=n1:=by omega
  rw[decide_eq_true h2]
  exact ⟨by rw[beq_iff_eq];omega,decide_eq_true e,by rw[beq_iff_eq];exact e⟩
 ·have e:i≠n1:=by omega
  rw[decide_eq_false h2]
  exact ⟨by rw[beq_eq_false_iff_ne];omega,decide_eq_false e,by rw[beq_eq_false_iff_ne];exact e⟩
structure PayR (pb:Nat) (key:ByteArray) (vb:Value) (L:List UInt8) (w:World):Prop where
 blk:Blk w pb 89 [.string key,vb]
 bx:Strs w vb (Ref.boxesL L (Ref.boxN L.length))
theorem PayR.after {pb:Nat} {key:ByteArray} {vb:Value} {L:List UInt8} {w w':World} (h:PayR pb key vb L w) (hb:Below w.heap.size w w'):PayR pb key vb L w':=⟨h.blk.below hb h.blk.lt,h.bx.after hb⟩
set_option maxRecDepth 100000 in
set_option maxHeartbeats 1600000 in
theorem stands_any (pb:Nat) (key c:ByteArray) (vb:Value) (L:List UInt8) (i:Nat) (w:World) (hP:PayR pb key vb L w) (hk:key.size=32) (hc:c.size≤1000) (hL:L.length≤1099511627776) (h:Ref.Stands key.data.toList L i c.data.toList):
  Calls Tryz.prog 46 #[.pointer (some ⟨pb,0,none⟩),.int .i64 (i:Nat),.string c] w fun e w'=>e = .returned (.bool true)∧Below w.heap.size w w':=by
 obtain ⟨hi,hs⟩:=h
 obtain ⟨ao,cp,rfl⟩:=hP.bx.len
 rw[Ref.boxesL_len] at hP
 obtain ⟨g,o,c0,hv,hgl,e1⟩:=hP.bx.at i (by rw[Ref.boxesL_len];exact hi)
 injection hv with hv hvn hvc
 clear hvn
 subst hv
 subst hvc
 rw[Ref.boxesL_at _ _ _ hi,←hs] at e1
 have hbn:=Ref.boxN_nums L.length
 generalize Ref.boxN L.length=n at *
 obtain ⟨n1,hn1⟩:∃ n1,n1+1=n:=⟨n-1,by omega⟩
 have tn:(n:Int)-1=(n1:Int):=by omega
 have jn:¬ (n:Int)≤(i:Int):=by omega
 have jn2:(i:Int)<(n:Int):=by omega
 obtain ⟨z1,z2,z3⟩:=lastB i n n1 hn1
 generalize decide (i+1=n)=lb at *
 have HKN:=hide (fun w=>knonce_any i lb w (by omega))
 have HSE:=hide (fun w=>sealAt key ⟨(Ref.nonce i lb).toArray⟩ c w hk (by rw[two_size,Ref.nonce_len]) (by omega))
 rw[two_toList] at HSE
 generalize (⟨(Box.sealed key.data.toList (Ref.nonce i lb) [] c.data.toList).toArray⟩:ByteArray)=SB at *
 generalize (⟨(Ref.nonce i lb).toArray⟩:ByteArray)=nn at *
 have HP:=hide hP
 have c1:=hP.blk.cell (i:=1) rfl
 have hpl:=hP.blk.lt
 have hnb:n≤1099511627776:=by omega
 clear hP hs hk hc hL hbn hn1
 go_enter Tryz.func46,Tryz.ntmps46
 go_wp2_with fail
 refine (HKN.out _).mono ?_
 rintro e w1 ⟨rfl,b1⟩
 have P1:=hide (HP.out.after b1)
 have f1:=(b1.cell hgl).trans e1
 have hg1:=Nat.lt_of_lt_of_le hgl b1.size
 have d0:=P1.out.blk.cell (i:=0) rfl
 have B1:=hide b1
 clear HKN b1 HP c1 e1 z1 z2 z3
 go_wp2_with fail
 refine (HSE.out _).mono ?_
 rintro e w2 ⟨rfl,b2⟩
 have P2:=P1.out.after b2
 have f2:=(b2.cell hg1).trans f1
 have d1:=P2.blk.cell (i:=1) rfl
 have B2:=hide (B1.out.trans (b2.mono B1.out.size))
 clear HSE b2 P1 P2 d0 f1 B1
 go_wp2
 go_ret
 exact ⟨rfl,B2.out⟩
def SldP (KY:ByteArray) (text:ByteArray) (L:List UInt8) (i:Nat):Prop:=i≤Ref.full text.size∧Ref.boxI (Ref.encF KY.data.toList text.data.toList) i=Ref.boxI L i∧(i=Ref.full text.size↔i+1=Ref.boxN L.length)
set_option maxRecDepth 100000 in
set_option maxHeartbeats 1600000 in
theorem sealedBy_any (pb fb:Nat) (v vb vc:Value) (l:List ByteArray) (d text b H KY:ByteArray) (L:List UInt8) (i:Nat) (w:World) (hP:PayR pb KY vc L w) (R:FileR fb v vb l d text b H KY w) (hx:text.size≤268435456) (hi:i<Ref.boxN L.length) (hL:L.length≤1099511627776):
  Calls Tryz.prog 77 #[.pointer (some ⟨pb,0,none⟩),.pointer (some ⟨fb,0,none⟩),.int .i64 (i:Nat)] w fun e w'=>∃ r:Bool,e = .returned (.bool r)∧(r=true→SldP KY text L i)∧Below w.heap.size w w':=by
 obtain ⟨ao,cp,rfl⟩:=hP.bx.len
 obtain ⟨bo,dp,rfl⟩:=R.bx.len
 rw[Ref.boxesL_len] at hP R
 obtain ⟨g,o,c0,hv,hgl,e1⟩:=hP.bx.at i (by rw[Ref.boxesL_len];exact hi)
 injection hv with hv hvn hvc
 clear hvn
 subst hv
 subst hvc
 rw[Ref.boxesL_at _ _ _ hi] at e1
 have p0:=hP.blk.cell (i:=0) rfl
 have p1:=hP.blk.cell (i:=1) rfl
 have q5:=R.blk.cell (i:=5) rfl
 have q6:=R.blk.cell (i:=6) rfl
 have hfn:=Ref.full_nums text.size
 have hbn:=Ref.boxN_nums L.length
 have hbx:=R.bx.at i
 rw[Ref.boxesL_len] at hbx
 have HS:=hide (show SldP KY text L i↔i≤Ref.full text.size∧Ref.boxI (Ref.encF KY.data.toList text.data.toList) i=Ref.boxI L i∧(i=Ref.full text.size↔i+1=Ref.boxN L.length) from Iff.rfl)
 generalize Ref.boxN L.length=n at *
 obtain ⟨F,hF⟩:∃ F,Ref.full text.size=F:=⟨_,rfl⟩
 rw[hF] at hbx q6 HS hfn
 clear hF
 have hFb:F≤268435456:=by omega
 have hnb:n≤1099511627776:=by omega
 obtain ⟨n1,hn1⟩:∃ n1,n1+1=n:=⟨n-1,by omega⟩
 have tn:(n:Int)-1=(n1:Int):=by omega
 obtain ⟨z1,z2,z3⟩:=lastB i n n1 hn1
 have hin:(i:Int)<(n:Int):=by omega
 clear hP R
 by_cases hlt:i<F+1
 ·obtain ⟨g2,o2,c2,hv2,hgl2,e2⟩:=hbx hlt
  injection hv2 with hv2 hvn2 hvc2
  clear hvn2
  subst hv2
  subst hvc2
  rw[Ref.boxesL_at _ _ _ hlt] at e2
  have jf:¬ ((F+1:Nat):Int)≤(i:Int):=by omega
  have jf2:(i:Int)<((F+1:Nat):Int):=by omega
  have jf3:¬ (F:Int)+1≤(i:Int):=by omega
  have jf4:(i:Int)<(F:Int)+1:=by omega
  clear hbx
  by_cases hb:Ref.boxI (Ref.encF KY.data.toList text.data.toList) i=Ref.boxI L i
  ·rw[hb] at e2
   have HB:=hide hb
   clear hb
   generalize (⟨(Ref.boxI L i).toArray⟩:ByteArray)=bi at *
   obtain ⟨y1,y2,y3⟩:=lastB i (F+1) F rfl
   have HD:=hide (show (decide (i+1=F+1)==decide (i+1=n))=true→SldP KY text L i from fun h=>HS.out.2 ⟨by omega,HB.out,by
    have h:=decide_eq_decide.1 (beq_iff_eq.1 h)
    constructor
    ·intro h2;exact h.1 (by omega)
    ·intro h2;have:=h.2 h2;omega⟩)
   generalize decide (i+1=F+1)=lf at *
   generalize decide (i+1=n)=ln at *
   clear HS HB
   go_enter Tryz.func77,Tryz.ntmps77
   go_wp2
   go_quiet (fail)
   go_wp2
   go_quiet (fail)
   go_wp2
   go_ret
   exact ⟨_,rfl,HD.out,below_drewN (below_drewN (Below.refl _ _) _) _⟩
  ·have hne:((⟨(Ref.boxI (Ref.encF KY.data.toList text.data.toList) i).toArray⟩:ByteArray).toList==(⟨(Ref.boxI L i).toArray⟩:ByteArray).toList)=false:=str_ne (fun e=>hb e)
   have e3:(⟨(Ref.boxI (Ref.encF KY.data.toList text.data.toList) i).toArray⟩:ByteArray)=⟨(Ref.boxI (Ref.encF KY.data.toList text.data.toList) i).toArray⟩:=rfl
   generalize (⟨(Ref.boxI (Ref.encF KY.data.toList text.data.toList) i).toArray⟩:ByteArray)=b1 at *
   generalize (⟨(Ref.boxI L i).toArray⟩:ByteArray)=b2 at *
   clear HS hb e3
   go_enter Tryz.func77,Tryz.ntmps77
   go_wp2
   go_quiet (fail)
   go_wp2
   go_ret
   exact ⟨false,rfl,(fun h=>by cases h),below_drewN (Below.refl _ _) _⟩
 ·have jf:((F+1:Nat):Int)≤(i:Int):=by omega
  have jf3:(F:Int)+1≤(i:Int):=by omega
  clear hbx HS
  go_enter Tryz.func77,Tryz.ntmps77
  go_wp2
  go_quiet (fail)
  go_wp2
  go_ret
  exact ⟨false,rfl,(fun h=>by cases h),below_drewN (Below.refl _ _) _⟩
end Go.Proofs.YtoifalcpfnacnaaGreatDoor
