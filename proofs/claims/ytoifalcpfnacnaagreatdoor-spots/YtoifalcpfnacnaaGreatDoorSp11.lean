import Derived.BigQuiet
import Derived.Test.YtoifalcpfnacnaaGreatDoorRows
import Derived.Test.YtoifalcpfnacnaaGreatDoorCards
import Derived.Test.YtoifalcpfnacnaaGreatDoorTie
import Derived.ProofKit
import Derived.OpenShut
import Derived.Deep.Slices
import Derived.Deep.DeepHandedRow
import Derived.Lib.LaidTab
import Derived.SizedLaws
import Derived.Stop.LaidErr
import Derived.Carry
import Derived.ChangeSame
import Derived.Test.YtoifalcpfnacnaaGreatDoorSp10
namespace Go.Proofs.YtoifalcpfnacnaaGreatDoor
open Go.RowKit
theorem sealAt (key nn t:ByteArray) (w:World) (hk:key.size=32) (hn:nn.size=12) (ht:t.size≤1099511627):
  Calls Tryz.prog 53 #[.string key,.string nn,.string ⟨#[]⟩,.string t] w fun e w'=>e = .returned (.tuple #[.string ⟨(Box.sealed key.data.toList nn.data.toList [] t.data.toList).toArray⟩,.int .i64 0])∧Below w.heap.size w w':=by
 have h:=pseal_ok key nn ⟨#[]⟩ t w (by decide) ht
 unfold ansV Box.sealAns at h
 rw[if_neg (by rw[hk,hn];decide)] at h
 exact h
def fileCells (vm:Value) (text d b:ByteArray) (top:Int) (key:ByteArray) (vb:Value):List Value:=[vm,.string text,.string d,.string b,.int .i64 top,.string key,vb]
theorem want_nums (N:Nat) (h:N≤268435456):∃ W:Nat,((N:Int)+16-1).tdiv 16=(W:Int)∧((N:Int)+15)/16=(W:Int)∧(if W=0 then 1 else W)=Ref.full N+1:=by
 refine ⟨(N+15)/16,?_,?_,?_⟩
 ·rw[Int.tdiv_eq_ediv_of_nonneg (by omega)];omega
 ·omega
 ·unfold Ref.full;split <;> omega
structure FSt (w:World) (fb:Nat) (vm:Value) (text d b:ByteArray) (top:Int) (key:ByteArray) (vb:Value) (bl:List ByteArray) (wi:World):Prop where
 blk:Blk wi fb 27 (fileCells vm text d b top key vb)
 strs:Strs wi vb bl
 be:Below w.heap.size w wi
theorem FSt.after {w:World} {fb:Nat} {vm:Value} {text d b:ByteArray} {top:Int} {key:ByteArray} {vb:Value} {bl:List ByteArray} {wi wj:World} (h:FSt w fb vm text d b top key vb bl wi) (hb:Below wi.heap.size wi wj):FSt w fb vm text d b top key vb bl wj:=
 ⟨h.blk.below hb h.blk.lt,h.strs.after hb,h.be.trans (hb.mono h.be.size)⟩
set_option maxRecDepth 100000 in
set_option maxHeartbeats 1600000 in
theorem fsealed_any (fb:Nat) (vm vb:Value) (text d b key:ByteArray) (top:Int) (bl:List ByteArray) (w:World) (hB:Blk w fb 27 (fileCells vm text d b top key vb)) (hs:Strs w vb bl) (hk:key.size=32) (hx:text.size≤268435456) (hl:bl.length=Ref.full text.size+1)
  (hbl:∀ i,i<bl.length→bl.getD i ⟨#[]⟩=⟨(Ref.box key.data.toList i (decide (i+1=bl.length)) (Ref.chunkL text.data.toList i)).toArray⟩):
  Calls Tryz.prog 56 #[.pointer (some ⟨fb,0,none⟩)] w fun e w'=>e = .returned (.bool true)∧Below w.heap.size w w':=by
 have c1:=hB.cell (i:=1) rfl
 have c6:=hB.cell (i:=6) rfl
 have HB:=hide hB
 have HS:=hide hs
 have HBL:=hide hbl
 have HK:=hide hk
 obtain ⟨ao,cp,rfl⟩:=hs.len
 obtain ⟨N,hN⟩:∃ N:Nat,text.size=N:=⟨_,rfl⟩
 obtain ⟨W,t1,t2,t3⟩:=want_nums N (by omega)
 obtain ⟨n,hn⟩:∃ n:Nat,bl.length=n:=⟨_,rfl⟩
 have HNN:=hide hn
 rw[hn] at hl c6
 have HNX:=hide hN
 rw[hN] at hl
 have hnb:n≤268435457:=by rw[hl];unfold Ref.full;omega
 have hfl:fb<w.heap.size:=hB.lt
 have hWn:(if W=0 then 1 else W)=n:=by rw[t3,hl]
 have hn0:0<n:=by omega
 obtain ⟨n1,hn1⟩:∃ n1:Nat,n1+1=n:=⟨n-1,by omega⟩
 have tn:(n:Int)-1=(n1:Int):=by omega
 have HN1:=hide hn1
 clear hB hs hbl hk hn hl t3 hn1
 have H0:=hide (show FSt w fb vm text d b top key (.slice ao n cp) bl w from ⟨by rw[←HNN.out];exact HB.out,by rw[←HNN.out];exact HS.out,Below.refl _ _⟩)
 by_cases hW:W=0
 ·subst hW
  have hn':n=1:=by rw[if_pos rfl] at hWn;omega
  subst hn'
  clear hWn
  go_enter Tryz.func56,Tryz.ntmps56
  go_wp2
  clear c1 c6
  go_loopw [5] (fun v wr=>∃ i:Nat,i≤1∧v = .int .i64 (i:Nat)∧FSt w fb vm text d b top key (.slice ao 1 cp) bl wr) (fun v _=>1-(intOf v).toNat)
  case atStart=>exact ⟨0,Nat.zero_le _,rfl,H0.out⟩
  case round=>
   clear H0
   obtain ⟨i,hi,rfl,hF⟩:=hrel
   have HF:=hide hF
   clear hF
   by_cases hlt:i<1
   ·have jl:(i:Int)<(1:Int):=by omega
    obtain ⟨lb,hlb⟩:∃ lb,decide (i+1=1)=lb:=⟨_,rfl⟩
    have zi:((i:Int)==(n1:Int))=lb:=by
     have:=HN1.out
     rw[←hlb]
     by_cases h:i+1=1
     ·rw[decide_eq_true h,beq_iff_eq];omega
     ·rw[decide_eq_false h,beq_eq_false_iff_ne];omega
    have zi2:decide (i=n1)=lb:=by
     have:=HN1.out
     rw[←hlb]
     by_cases h:i+1=1
     ·rw[decide_eq_true h,decide_eq_true (by omega)]
     ·rw[decide_eq_false h,decide_eq_false (by omega)]
    have zi3:(i==n1)=lb:=by rw[←zi2];rfl
    have zi4:((i:Int)==0)=lb:=by
     have h1:=HN1.out
     rw[←hlb,decide_eq_true (by omega),beq_iff_eq]
     omega
    have hbx:=HBL.out i (by rw[HNN.out];exact hlt)
    rw[HNN.out,hlb] at hbx
    have HKN:=hide (fun w=>knonce_any i lb w (by omega))
    have HCH:=hide (fun w=>chunk_any text i w (by omega) (by omega))
    have hcl:(Ref.chunkL text.data.toList i).length≤16:=by unfold Ref.chunkL;rw[List.length_take];omega
    have HSE:=hide (fun w=>sealAt key ⟨(Ref.nonce i lb).toArray⟩ ⟨(Ref.chunkL text.data.toList i).toArray⟩ w HK.out (by rw[two_size,Ref.nonce_len]) (by rw[two_size];omega))
    rw[two_toList,two_toList] at HSE
    have hbq:Ref.box key.data.toList i lb (Ref.chunkL text.data.toList i)=Box.sealed key.data.toList (Ref.nonce i lb) [] (Ref.chunkL text.data.toList i):=by unfold Ref.box;rw[if_pos (by rw[ba_len,HK.out])]
    rw[hbq] at hbx
    have HBX:=hide hbx
    generalize (⟨(Box.sealed key.data.toList (Ref.nonce i lb) [] (Ref.chunkL text.data.toList i)).toArray⟩:ByteArray)=SB at *
    generalize (⟨(Ref.nonce i lb).toArray⟩:ByteArray)=nn at *
    generalize (⟨(Ref.chunkL text.data.toList i).toArray⟩:ByteArray)=cc at *
    have HLT:=hide hlt
    clear hbx hbq hcl hlt hlb
    go_wp2_with fail
    refine (HKN.out _).mono ?_
    rintro e w1 ⟨rfl,be1⟩
    have F1:=hide (HF.out.after be1)
    have c1:=F1.out.blk.cell (i:=1) rfl
    clear HKN be1 HF zi zi2 zi3 zi4
    go_wp2_with fail
    refine (HCH.out _).mono ?_
    rintro e w2 ⟨rfl,rfl⟩
    have c5:=F1.out.blk.cell (i:=5) rfl
    clear HCH c1
    go_wp2_with fail
    refine (HSE.out _).mono ?_
    rintro e w3 ⟨rfl,be3⟩
    have F3:=hide (F1.out.after be3)
    have c6:=F3.out.blk.cell (i:=6) rfl
    obtain ⟨g,o,c,hv1,hgl,e1⟩:=F3.out.strs.at i (by rw[HNN.out];exact HLT.out)
    injection hv1 with hv1 hv1n hv1c
    clear hv1n
    subst hv1
    subst hv1c
    rw[HBX.out] at e1
    clear HSE be3 F1 c5
    go_wp2
    go_roundw
    case rel=>exact ⟨i+1,HLT.out,by go_num,F3.out⟩
    case measure=>have:=HLT.out;simp[intOf];omega
   ·have jl:¬ (i:Int)<(1:Int):=by omega
    go_wp2
    go_ret
    exact ⟨rfl,HF.out.be⟩
 ·rw[if_neg hW] at hWn
  subst hWn
  have zW:((W:Int)==0)=false:=beq_eq_false_iff_ne.2 (by omega)
  go_enter Tryz.func56,Tryz.ntmps56
  go_wp2
  clear c1 c6
  go_loopw [5] (fun v wr=>∃ i:Nat,i≤W∧v = .int .i64 (i:Nat)∧FSt w fb vm text d b top key (.slice ao W cp) bl wr) (fun v _=>W-(intOf v).toNat)
  case atStart=>exact ⟨0,Nat.zero_le _,rfl,H0.out⟩
  case round=>
   clear H0
   obtain ⟨i,hi,rfl,hF⟩:=hrel
   have HF:=hide hF
   clear hF
   by_cases hlt:i<W
   ·have jl:(i:Int)<(W:Int):=by omega
    obtain ⟨lb,hlb⟩:∃ lb,decide (i+1=W)=lb:=⟨_,rfl⟩
    have zi:((i:Int)==(n1:Int))=lb:=by
     have:=HN1.out
     rw[←hlb]
     by_cases h:i+1=W
     ·rw[decide_eq_true h,beq_iff_eq];omega
     ·rw[decide_eq_false h,beq_eq_false_iff_ne];omega
    have zi2:decide (i=n1)=lb:=by
     have:=HN1.out
     rw[←hlb]
     by_cases h:i+1=W
     ·rw[decide_eq_true h,decide_eq_true (by omega)]
     ·rw[decide_eq_false h,decide_eq_false (by omega)]
    have zi3:(i==n1)=lb:=by rw[←zi2];rfl
    have hbx:=HBL.out i (by rw[HNN.out];exact hlt)
    rw[HNN.out,hlb] at hbx
    have HKN:=hide (fun w=>knonce_any i lb w (by omega))
    have HCH:=hide (fun w=>chunk_any text i w (by omega) (by omega))
    have hcl:(Ref.chunkL text.data.toList i).length≤16:=by unfold Ref.chunkL;rw[List.length_take];omega
    have HSE:=hide (fun w=>sealAt key ⟨(Ref.nonce i lb).toArray⟩ ⟨(Ref.chunkL text.data.toList i).toArray⟩ w HK.out (by rw[two_size,Ref.nonce_len]) (by rw[two_size];omega))
    rw[two_toList,two_toList] at HSE
    have hbq:Ref.box key.data.toList i lb (Ref.chunkL text.data.toList i)=Box.sealed key.data.toList (Ref.nonce i lb) [] (Ref.chunkL text.data.toList i):=by unfold Ref.box;rw[if_pos (by rw[ba_len,HK.out])]
    rw[hbq] at hbx
    have HBX:=hide hbx
    generalize (⟨(Box.sealed key.data.toList (Ref.nonce i lb) [] (Ref.chunkL text.data.toList i)).toArray⟩:ByteArray)=SB at *
    generalize (⟨(Ref.nonce i lb).toArray⟩:ByteArray)=nn at *
    generalize (⟨(Ref.chunkL text.data.toList i).toArray⟩:ByteArray)=cc at *
    have HLT:=hide hlt
    clear hbx hbq hcl hlt hlb
    go_wp2_with fail
    refine (HKN.out _).mono ?_
    rintro e w1 ⟨rfl,be1⟩
    have F1:=hide (HF.out.after be1)
    have c1:=F1.out.blk.cell (i:=1) rfl
    clear HKN be1 HF zi zi2 zi3
    go_wp2_with fail
    refine (HCH.out _).mono ?_
    rintro e w2 ⟨rfl,rfl⟩
    have c5:=F1.out.blk.cell (i:=5) rfl
    clear HCH c1
    go_wp2_with fail
    refine (HSE.out _).mono ?_
    rintro e w3 ⟨rfl,be3⟩
    have F3:=hide (F1.out.after be3)
    have c6:=F3.out.blk.cell (i:=6) rfl
    obtain ⟨g,o,c,hv1,hgl,e1⟩:=F3.out.strs.at i (by rw[HNN.out];exact HLT.out)
    injection hv1 with hv1 hv1n hv1c
    clear hv1n
    subst hv1
    subst hv1c
    rw[HBX.out] at e1
    clear HSE be3 F1 c5
    go_wp2
    go_roundw
    case rel=>exact ⟨i+1,HLT.out,by go_num,F3.out⟩
    case measure=>have:=HLT.out;simp[intOf];omega
   ·have jl:¬ (i:Int)<(W:Int):=by omega
    go_wp2
    go_ret
    exact ⟨rfl,HF.out.be⟩
structure FileF (l:List ByteArray) (d text b H PD KY FK:ByteArray) (ss bs:List ByteArray) (mac:ByteArray) (n:Nat):Prop where
 hn:l.length=n
 ok:Hd.Ok ss bs mac
 nss:ss.length=n
 hs:H.size=59+75*n
 par:Hd.parAns H=(⟨ss,bs,mac⟩,0)
 bl:b.data.toList=H.data.toList++(PD.data.toList++Ref.encF KY.data.toList text.data.toList)
 pd:PD.size=16
 fk:FK.size=16
 ky:KY.size=32
 e0:b.extract 0 H.size=H
 e1:b.extract H.size (H.size+16)=PD
 e2:(b.extract (H.size+16) b.size).data.toList=Ref.encF KY.data.toList text.data.toList
 bz:b.size=H.size+16+(Ref.encF KY.data.toList text.data.toList).length
 top:Hd.wholeAt b.data.toList (H.size-1)∧Hd.noneTo b.data.toList (H.size-1)
 key:KY.data.toList=Ref.keyL FK.data.toList PD.data.toList Ref.inBody
 fkd:FK=d.extract (n*16) ((n+1)*16)
 pdd:PD=d.extract ((n+1)*16) d.size
 sal:∀ i,i<n→ss.getD i ⟨#[]⟩=d.extract (i*16) ((i+1)*16)
 bod:∀ i,i<n→bs.getD i ⟨#[]⟩=⟨(Box.sealed (Ref.keyL (l.getD i ⟨#[]⟩).data.toList (ss.getD i ⟨#[]⟩).data.toList Ref.inWrap) (nought 12) [] FK.data.toList).toArray⟩
 mc:macL (Ref.keyL FK.data.toList [] Ref.inHead) (b.extract 0 (H.size-45)).data.toList=mac.data.toList
 msz:mac.size=32
theorem top_of {T T' r L:List UInt8} {k:Nat} (hT:T=T') (hL:L=T++r) (hk:T.length=k) (h:∀ r,Hd.wholeAt (T'++r) (T'.length-1)∧Hd.noneTo (T'++r) (T'.length-1)):Hd.wholeAt L (k-1)∧Hd.noneTo L (k-1):=by
 subst hT
 subst hL
 subst hk
 exact h r
theorem file_facts (l:List ByteArray) (d text:ByteArray) (h1:1≤l.length) (h3:l.length≤3) (hd:d.size=16*(l.length+2)):
  FileF l d text (fileB l d text) (Ref.head l d 0) (Ref.pdraw l d 0) (Ref.pkey l d 0) (Ref.fkey l d 0) (cuts d 0 l.length) (Ref.bodsL l (cuts d 0 l.length) (Ref.fkey l d 0).data.toList l.length) (Ref.macB l (cuts d 0 l.length) (Ref.fkey l d 0).data.toList) l.length:=by
 have hfk:(Ref.fkey l d 0).size=16:=by unfold Ref.fkey;rw[ByteArray.size_extract];omega
 have hpd:(Ref.pdraw l d 0).size=16:=by unfold Ref.pdraw;rw[ByteArray.size_extract];omega
 have hO:=Ref.okHead (l:=l) (ss:=cuts d 0 l.length) (key:=(Ref.fkey l d 0).data.toList) (by omega) (by omega) (cuts_len _ _ _) (Ref.cuts_size (by omega)) (by rw[ba_len,hfk]) (Ref.macB l (cuts d 0 l.length) (Ref.fkey l d 0).data.toList) (Ref.macB_size _ _ _)
 have hHl:(Ref.head l d 0).data.toList=Hd.text (cuts d 0 l.length) (Ref.bodsL l (cuts d 0 l.length) (Ref.fkey l d 0).data.toList l.length) (Ref.macB l (cuts d 0 l.length) (Ref.fkey l d 0).data.toList):=rfl
 have hHo:Ref.head l d 0=Hd.ofL (Hd.text (cuts d 0 l.length) (Ref.bodsL l (cuts d 0 l.length) (Ref.fkey l d 0).data.toList l.length) (Ref.macB l (cuts d 0 l.length) (Ref.fkey l d 0).data.toList)):=rfl
 have hHs:(Ref.head l d 0).size=59+75*l.length:=by rw[hHo,hO.size_eq,cuts_len]
 have hbl:(fileB l d text).data.toList=(Ref.head l d 0).data.toList++((Ref.pdraw l d 0).data.toList++Ref.encF (Ref.pkey l d 0).data.toList text.data.toList):=by
  show (Ref.file l d 0 text.data.toList)=_
  unfold Ref.file
  rw[List.append_assoc]
 have hHlen:(Ref.head l d 0).data.toList.length=(Ref.head l d 0).size:=ba_len _
 have hPlen:(Ref.pdraw l d 0).data.toList.length=16:=by rw[ba_len,hpd]
 have hbz:(fileB l d text).size=(Ref.head l d 0).size+16+(Ref.encF (Ref.pkey l d 0).data.toList text.data.toList).length:=by
  rw[←ba_len,hbl,List.length_append,List.length_append,hHlen,hPlen,Nat.add_assoc]
 have e0:(fileB l d text).extract 0 (Ref.head l d 0).size=Ref.head l d 0:=ba_ext (by rw[ext_take,hbl,List.take_left' hHlen])
 refine ⟨rfl,hO,cuts_len _ _ _,hHs,by rw[hHo,Hd.parAns_text hO],hbl,hpd,hfk,Ref.pkey_size _ _ _,e0,?_,?_,hbz,?_,rfl,?_,?_,?_,?_,?_,Ref.macB_size _ _ _⟩
 ·apply ba_ext
  rw[sub_list,hbl,Nat.add_sub_cancel_left,List.drop_left' hHlen,List.take_left' hPlen]
 ·rw[sub_list,hbl,←List.append_assoc,List.drop_left' (by rw[List.length_append,hHlen,hPlen]),List.take_of_length_le (by rw[hbz];omega)]
 ·exact top_of hHl hbl hHlen (fun r=>hO.top r)
 ·unfold Ref.fkey
  rw[show 0+16*l.length=l.length*16 by omega,show l.length*16+16=(l.length+1)*16 by omega]
 ·unfold Ref.pdraw
  rw[show 0+16*(l.length+1)=(l.length+1)*16 by omega,show (l.length+1)*16+16=d.size by omega]
 ·intro i hi
  rw[List.getD_eq_getElem?_getD,List.getElem?_eq_getElem (by rw[cuts_len];exact hi)]
  have e:(cuts d 0 l.length)[i]'(by rw[cuts_len];exact hi)=d.extract (0+16*i) (0+16*i+16):=(List.getElem_map _).trans (by rw[List.getElem_range])
  show (cuts d 0 l.length)[i]'(by rw[cuts_len];exact hi)=_
  rw[e,show 0+16*i=i*16 by omega,show i*16+16=(i+1)*16 by omega]
 ·intro i hi
  rw[Ref.bodsL_at _ _ _ _ _ hi]
  rfl
 ·have h:=Ref.text_top hO
  rw[←hHl,hHlen] at h
  rw[ext_take,hbl,List.take_append_of_le_length (by rw[hHlen];omega),h]
  rfl
theorem FileF.topO {l:List ByteArray} {d text b H PD KY FK:ByteArray} {ss bs:List ByteArray} {mac:ByteArray} {n:Nat} (F:FileF l d text b H PD KY FK ss bs mac n) (h3:n≤3) {r:Int} (h:TopO b.data.toList r):r=(H.size:Int):=by
 obtain ⟨t1,t2⟩:=F.top
 have hs:=F.hs
 have hz:=F.bz
 rcases h with ⟨k,_,_,hw,hno,rfl⟩ | ⟨hno,_⟩
 ·rcases Nat.lt_trichotomy k (H.size-1) with h | h | h
  ·exact absurd hw (t2 k h)
  ·omega
  ·exact absurd t1 (hno _ h)
 ·exact absurd t1 (hno _ (by rw[ba_len];omega))
theorem Src.Top.calm {T:List UInt8} {x y:Src} {k j c q:Nat} (h:Src.Top T x k y j c) (hc:Src.Calm x.plan) (hx:x.at_≤x.s.size) (hw:Hd.wholeAt T q) (hn:Hd.noneTo T q) (hk:k≤q) (hq:q<284) (hat:x.at_+(q-k)<x.s.size):j=q+1∧c=0:=by
 induction h using Src.Top.ind with
 | full x k h=>omega
 | fail x y k _ ha=>exact absurd rfl (ha.calm hc)
 | over x y k _ ha=>
  have:=(ha.calm_all hc hx).1 (by omega)
  omega
 | hit x y k _ ha hh=>
  rcases Nat.eq_or_lt_of_le hk with e | e
  ·exact ⟨by omega,rfl⟩
  ·exact absurd hh (hn k e)
 | more x y z k j c _ ha hh ht ih=>
  have hl:=ha.left hx
  have hy:=hl.all rfl
  have hne:k≠q:=fun e=>hh (e ▸ hw)
  exact ih (by rw[hl.plan];exact hc) hl.size (by omega) (by rw[hl.s];omega)
section
variable {l:List ByteArray} {d text b H PD KY FK:ByteArray} {ss bs:List ByteArray} {mac:ByteArray} {n:Nat}
theorem FileF.opn (F:FileF l d text b H PD KY FK ss bs mac n) (h1:1≤n) (h3:n≤3):Ref.opnA (Hd.at_ l 0) H=(FK.data.toList,0):=by
 have hu:Ref.unwA (Hd.at_ l 0) ss bs=(FK.data.toList,0):=by
  unfold Ref.unwA
  rw[F.nss]
  obtain ⟨f,rfl⟩:∃ f,n=f+1:=⟨n-1,by omega⟩
  have hb:Ref.body (Hd.at_ l 0) ss bs 0=(FK.data.toList,0):=by
   unfold Ref.body Hd.at_
   rw[F.bod 0 (by omega)]
   exact Box.opened_sealed _ _ _ _
  rw[Ref.unw,hb,if_pos rfl]
 rw[opnA_ok F.par,hu]
 unfold hdAns
 have hmc:=F.mc
 rw[ext_take] at hmc
 have he:b.data.toList.take (H.size-45)=H.data.toList.take (H.size-45):=by
  rw[F.bl,List.take_append_of_le_length (by rw[ba_len];omega)]
 rw[he] at hmc
 rw[if_neg (by simp),if_neg (fun h=>h hmc)]
theorem FileF.new (F:FileF l d text b H PD KY FK ss bs mac n) (h1:1≤n) (h3:n≤3) (hm:(Hd.at_ l 0).length=32) {x z:Src} {k:Int} {key:List UInt8} (hxs:x.s=b) (hxa:x.at_=0) (hc:Src.Calm x.plan) (h:Ref.New (Hd.at_ l 0) x z k key):k=0∧key=KY.data.toList∧z.at_=H.size+16∧z.s=b∧z.plan=x.plan:=by
 have hs:=F.hs
 have hz:=F.bz
 have hr:x.rest=b.data.toList:=by unfold Src.rest;rw[hxs,hxa];rfl
 have hx0:x.at_≤x.s.size:=by omega
 have top:∀ {y:Src} {j c:Nat},Src.Top x.rest x 0 y j c→j=H.size∧c=0∧y.at_=H.size∧y.s=b∧y.plan=x.plan∧y.at_≤y.s.size:=by
  intro y j c ht
  have L:=ht.left hx0
  obtain ⟨e1,e2⟩:=ht.calm hc hx0 (by rw[hr];exact F.top.1) (by rw[hr];exact F.top.2) (Nat.zero_le _) (by omega) (by rw[hxs,hxa];omega)
  have:=L.at_
  exact ⟨by omega,e2,by omega,by rw[L.s,hxs],L.plan,L.size⟩
 have hop:∀ j,j=H.size→Ref.opnA (Hd.at_ l 0) (topS x j)=(FK.data.toList,0):=by
  rintro j rfl
  have e:topS x H.size=H:=by unfold topS;rw[hxs,hxa,Nat.zero_add];exact F.e0
  rw[e]
  exact F.opn h1 h3
 cases h using Ref.New.elim with
 | len h=>exact absurd hm h
 | src y j _ ht=>exact absurd (top ht).2.1 (by decide)
 | top y j c _ ht _ ho=>
  rw[hop j (top ht).1] at ho
  exact absurd rfl ho
 | cut y j c z d _ ht _ _ ha hd=>
  obtain ⟨e1,e2,e3,e4,e5,e6⟩:=top ht
  exact absurd ((ha.calm_all (by rw[e5];exact hc) e6).1 (by rw[e3,e4];omega)).1 hd
 | ok y j c z _ ht _ _ ha=>
  obtain ⟨e1,e2,e3,e4,e5,e6⟩:=top ht
  have L:=ha.left e6
  have hall:=L.all rfl
  refine ⟨rfl,?_,by omega,by rw[L.s,e4],L.plan.trans e5⟩
  rw[hop j e1]
  have e:topS y 16=PD:=by unfold topS;rw[e4,e3];exact F.e1
  rw[e,F.key]
theorem FileF.opnI (F:FileF l d text b H PD KY FK ss bs mac n) (i:Nat) (hi:i≤Ref.full text.size):Ref.opnI KY.data.toList (Ref.encF KY.data.toList text.data.toList) i=(Ref.chunkL text.data.toList i,0):=by
 have hk:KY.data.toList.length=32:=by rw[ba_len,F.ky]
 have hl:=Ref.encF_len hk text.data.toList
 have hf:=Ref.full_nums text.size
 rw[ba_len] at hl
 unfold Ref.opnI
 rw[Ref.encF_box hk _ _ (by rw[ba_len];exact hi),ba_len]
 have hd:decide ((Ref.encF KY.data.toList text.data.toList).length≤32*i+32)=decide (i=Ref.full text.size):=by
  by_cases h:i=Ref.full text.size
  ·rw[decide_eq_true h,decide_eq_true (by omega)]
  ·rw[decide_eq_false h,decide_eq_false (by omega)]
 rw[hd]
 unfold Ref.box
 rw[if_pos hk]
 refine Ref.opnC_box _ _ _ (fun h1 h2 h3=>?_)
 have he:=of_decide_eq_true h1
 have:=congrArg List.length h3
 unfold Ref.chunkL at this
 rw[List.length_take,List.length_drop,ba_len,List.length_nil] at this
 unfold Ref.full at he
 omega
theorem chunk_piece (X:List UInt8) (a u:Nat) (h1:a≤u) (h2:u≤16*(a/16)+16):((Ref.chunkL X (a/16)).drop (a-16*(a/16))).take (u-a)=(X.drop a).take (u-a):=by
 unfold Ref.chunkL
 rw[List.drop_take,List.drop_drop,List.take_take,Nat.min_eq_left (by omega)]
 congr 2
 omega
theorem FileF.spn (F:FileF l d text b H PD KY FK ss bs mac n) {e a:Nat} {acc:List UInt8} {r:List UInt8 × Int} (he:e≤text.size) (h:Ref.Spn KY.data.toList (Ref.encF KY.data.toList text.data.toList) e a acc r):r=(acc++(text.data.toList.drop a).take (e-a),0):=by
 induction h using Ref.Spn.ind with
 | done a acc h=>rw[show e-a=0 by omega,List.take_zero,List.append_nil]
 | bad a acc h ho=>
  rw[F.opnI (a/16) (by unfold Ref.full;omega)] at ho
  exact absurd rfl ho
 | more a acc r h ho _ ih=>
  have hu:=Ref.upTo_nums a e h
  rw[ih,F.opnI (a/16) (by unfold Ref.full;omega)]
  show (acc++((Ref.chunkL text.data.toList (a/16)).drop (a-16*(a/16))).take (Ref.upTo a e-a)++_,(0:Int))=_
  rw[chunk_piece _ _ _ (by omega) (by unfold Ref.upTo;omega),List.append_assoc]
  congr 2
  rw[show e-a=(Ref.upTo a e-a)+(e-Ref.upTo a e) by omega,List.take_add,List.drop_drop,show a+(Ref.upTo a e-a)=Ref.upTo a e by omega]
theorem FileF.atN (F:FileF l d text b H PD KY FK ss bs mac n) (h1:1≤n) (h3:n≤3) (hm:(Hd.at_ l 0).length=32) {k:Int} {key:List UInt8} {ch:ByteArray} {size:Nat} (h:AtN (Hd.at_ l 0) b k key ch size):k=0∧key=KY.data.toList∧ch.data.toList=Ref.encF KY.data.toList text.data.toList∧size=text.size:=by
 have hk:KY.data.toList.length=32:=by rw[ba_len,F.ky]
 have hl:=Ref.encF_len hk text.data.toList
 have hf:=Ref.full_nums text.size
 rw[ba_len] at hl
 have hz:=F.bz
 have new:∀ {y:Src} {k:Int} {key:List UInt8},Ref.New (Hd.at_ l 0) (src0 b) y k key→k=0∧key=KY.data.toList∧y.at_=H.size+16:=fun hn=>by
  have:=F.new h1 h3 hm (x:=src0 b) rfl rfl (src0_calm b) hn
  exact ⟨this.1,this.2.1,this.2.2.1⟩
 have hi:b.size-(H.size+16)-1=(Ref.encF KY.data.toList text.data.toList).length-1:=by omega
 have hif:(b.size-(H.size+16)-1)/32=Ref.full text.size:=by rw[hi,hl];omega
 cases h using AtN.elim with
 | bad y _ key hn hk0=>exact absurd (new hn).1 hk0
 | cut y key hn hle=>have:=(new hn).2.2;omega
 | last y key hn hlt ho=>
  obtain ⟨_,e2,e3⟩:=new hn
  rw[e3,e2,F.e2,hif,F.opnI _ (Nat.le_refl _)] at ho
  exact absurd rfl ho
 | ok y key hn hlt ho=>
  obtain ⟨_,e2,e3⟩:=new hn
  refine ⟨rfl,e2,by rw[e3,F.e2],?_⟩
  rw[e3,e2,F.e2,hif,F.opnI _ (Nat.le_refl _)]
  show 16*Ref.full text.size+(Ref.chunkL text.data.toList (Ref.full text.size)).length=_
  unfold Ref.chunkL
  rw[List.length_take,List.length_drop,ba_len]
  omega
end
structure KN (w:World) (fc:List Value) (hb:Nat) (vs vc:Value) (mac:ByteArray) (v:Value) (l ss bs:List ByteArray) (wi:World):Prop where
 file:Blk wi w.heap.size 27 fc
 head:Blk wi hb 70 [vs,vc,.string mac]
 tb:Tabs wi
 s0:Strs wi v l
 s1:Strs wi vs ss
 s2:Strs wi vc bs
 be:Below w.heap.size w wi
theorem KN.after {w:World} {fc:List Value} {hb:Nat} {vs vc:Value} {mac:ByteArray} {v:Value} {l ss bs:List ByteArray} {wi wj:World} (h:KN w fc hb vs vc mac v l ss bs wi) (hb':Below wi.heap.size wi wj):KN w fc hb vs vc mac v l ss bs wj:=
 ⟨h.file.below hb' h.file.lt,h.head.below hb' h.head.lt,h.tb.after hb',h.s0.after hb',h.s1.after hb',h.s2.after hb',h.be.trans (hb'.mono h.be.size)⟩
structure FileR (fb:Nat) (v vb:Value) (l:List ByteArray) (d text b H KY:ByteArray) (w:World):Prop where
 blk:Blk w fb 27 (fileCells v text d b (H.size:Int) KY vb)
 ms:Strs w v l
 bx:Strs w vb (Ref.boxesL (Ref.encF KY.data.toList text.data.toList) (Ref.full text.size+1))
def KnownP (v:Value) (l:List ByteArray) (d text b H KY:ByteArray) (w:World) (e:Ending) (w':World):Prop:=∃ vb,e = .returned (.tuple #[.pointer (some ⟨w.heap.size,0,none⟩),.bool true])∧FileR w.heap.size v vb l d text b H KY w'∧Below w.heap.size w w'
theorem known_nums (n i:Nat) (hn:n≤4) (hi:i<n):∃ a b:Nat,(i:Int)*16=(a:Int)∧((i:Int)+1)*16=(b:Int)∧a=i*16∧b=(i+1)*16∧(a:Int)≤(b:Int)∧b≤64:=⟨i*16,(i+1)*16,by omega,by omega,rfl,rfl,by omega,by omega⟩
theorem boxes_right {KY text:ByteArray} (hk:KY.size=32) {M:Nat} (hM:Ref.full text.size+1=M):∀ j,j<(Ref.boxesL (Ref.encF KY.data.toList text.data.toList) M).length→(Ref.boxesL (Ref.encF KY.data.toList text.data.toList) M).getD j ⟨#[]⟩=⟨(Ref.box KY.data.toList j (decide (j+1=(Ref.boxesL (Ref.encF KY.data.toList text.data.toList) M).length)) (Ref.chunkL text.data.toList j)).toArray⟩:=by
 intro j hj
 rw[Ref.boxesL_len] at hj ⊢
 have hd:decide (j+1=M)=decide (j=Ref.full text.data.toList.length):=by
  rw[ba_len]
  by_cases h:j=Ref.full text.size
  ·rw[decide_eq_true h,decide_eq_true (by omega)]
  ·rw[decide_eq_false h,decide_eq_false (by omega)]
 rw[Ref.boxesL_at _ _ _ hj,Ref.encF_box (by rw[ba_len,hk]) _ _ (by rw[ba_len];omega),hd]
set_option maxRecDepth 100000 in
set_option maxHeartbeats 3200000 in
theorem known_any (v:Value) (l:List ByteArray) (d text b H PD KY FK:ByteArray) (ss bs:List ByteArray) (mac:ByteArray) (n:Nat) (w:World) (ht:Tabs w) (hv:Strs w v l) (h1:1≤n) (h3:n≤3) (hm:∀ m ∈ l,m.size=32) (hd:d.size=16*(n+2)) (hx:text.size≤268435456) (F:FileF l d text b H PD KY FK ss bs mac n):
  Calls Tryz.prog 26 #[v,.string d,.string text,.string b] w (KnownP v l d text b H KY w):=by
 have hEl:=Ref.encF_len (key:=KY.data.toList) (by rw[ba_len,F.ky]) text.data.toList
 have hbz:=F.bz
 have hHs:=F.hs
 have hfn:=Ref.full_nums text.data.toList.length
 have htl:text.data.toList.length=text.size:=ba_len _
 have hbs:b.size≤34359738368:=by omega
 have HTO:=hide (topOf_any b)
 have HPA:=hide (fun w=>pParse_any H w (by omega))
 rw[F.par] at HPA
 change Hid (∀ w,Calls Tryz.prog 31 #[.string H] w fun e w'=>∃ vs vb,e = .returned (.tuple #[.agg #[vs,vb,.string mac],.int .i64 0]) ∧
   Row w' w.heap.size 9 1 vs ss.length (strV ss)∧Row w' w.heap.size 9 1 vb bs.length (strV bs)∧Below w.heap.size w w') at HPA
 have HF:=hide F
 have HT:=hide ht
 have HV:=hide hv
 have HV2:=hide hv
 have HM:=hide hm
 obtain ⟨ao,cp,hvv⟩:=hv.len
 rw[F.hn] at hvv
 subst hvv
 obtain ⟨T,hT⟩:∃ T:Nat,H.size=T:=⟨_,rfl⟩
 have e0:=F.e0
 rw[hT] at e0 hHs hbz
 have HHT:=hide hT
 obtain ⟨N,hN⟩:∃ N:Nat,b.size=N:=⟨_,rfl⟩
 have HBN:=hide hN
 have hTN:T+16≤N:=by omega
 have j1:¬ (T:Int)<45:=by omega
 have j2:¬ (N:Int)<(T:Int)+16:=by omega
 have hT3:T≤284:=by omega
 have hB0:Blk (w.alloc (.cells (fileCells (.slice ao n cp) text d b 0 ⟨#[]⟩ (.slice none 0 0)).toArray 27)) w.heap.size 27 (fileCells (.slice ao n cp) text d b 0 ⟨#[]⟩ (.slice none 0 0)):=Blk.new rfl rfl
 have hbA:Below w.heap.size w (w.alloc (.cells (fileCells (.slice ao n cp) text d b 0 ⟨#[]⟩ (.slice none 0 0)).toArray 27)):=(Below.refl _ _).alloc (Nat.le_refl _) _
 obtain ⟨w1,hw1⟩:∃ x,w.alloc (.cells (fileCells (.slice ao n cp) text d b 0 ⟨#[]⟩ (.slice none 0 0)).toArray 27)=x:=⟨_,rfl⟩
 rw[hw1] at hB0 hbA
 have HTO1:=hide (HTO.out w1 (by omega))
 have f1:=hB0.frozen
 have c4:=(hB0.setCell_same 4 (.int .i64 (T:Nat))).cell (i:=4) rfl
 have c40:=hB0.cell (i:=4) rfl
 have HB2:=hide (show Blk (w1.setCell ⟨w.heap.size,4,none⟩ (.int .i64 (T:Nat))) w.heap.size 27 (fileCells (.slice ao n cp) text d b (T:Nat) ⟨#[]⟩ (.slice none 0 0)) from hB0.setCell_same 4 _)
 have HBE2:=hide (hbA.setCell (p:=⟨w.heap.size,4,none⟩) (Nat.le_refl _) (.int .i64 (T:Nat)))
 have HTR:=hide (fun r h=>(F.topO h3 (r:=r) h).trans (by rw[hT]))
 clear F ht hv hm hEl hbz hHs hfn htl hT hB0 hbA HTO
 go_enter Tryz.func26,Tryz.ntmps26
 go_wp2_with fail
 rw[show w.alloc (.cells #[.slice ao n cp,.string text,.string d,.string b,.int .i64 0,.string ⟨#[]⟩,.slice none 0 0] 27)=w1 from hw1]
 refine HTO1.out.mono ?_
 rintro e w1' ⟨r,hr,rfl,rfl⟩
 obtain rfl:=HTR.out r hr
 clear hw1 HTO1 HTR hr
 obtain ⟨w2,hw2⟩:∃ x,w1'.setCell ⟨w.heap.size,4,none⟩ (.int .i64 (T:Nat))=x:=⟨_,rfl⟩
 rw[hw2] at c4 HB2 HBE2
 go_wp2_with fail
 refine (HPA.out _).mono ?_
 rintro e w3 ⟨vs,vc,rfl,hr1,hr2,hb3⟩
 have hbB:Below w3.heap.size w3 (w3.alloc (.cells #[vs,vc,.string mac] 70)):=(Below.refl _ _).alloc (Nat.le_refl _) _
 have hbC:Below w2.heap.size w2 (w3.alloc (.cells #[vs,vc,.string mac] 70)):=hb3.trans (hbB.mono hb3.size)
 have hB3:Blk (w3.alloc (.cells #[vs,vc,.string mac] 70)) w3.heap.size 70 [vs,vc,.string mac]:=Blk.new rfl rfl
 have hK3:KN w (fileCells (.slice ao n cp) text d b (T:Nat) ⟨#[]⟩ (.slice none 0 0)) w3.heap.size vs vc mac (.slice ao n cp) l ss bs (w3.alloc (.cells #[vs,vc,.string mac] 70)):=
  ⟨HB2.out.below hbC HB2.out.lt,hB3,(HT.out.below HBE2.out HT.out.two).after hbC,(HV.out.below HBE2.out HV.out.blt).after hbC,(Row.strs hr1).after hbB,(Row.strs hr2).after hbB,HBE2.out.trans (hbC.mono HBE2.out.size)⟩
 have HK3:=hide hK3
 have hss:=HF.out.nss
 have hbl:bs.length=n:=by rw[HF.out.ok.nb,hss]
 rw[hss] at hr1
 rw[hbl] at hr2
 obtain ⟨o1,c1,rfl,_⟩:=Row.anyN hr1
 obtain ⟨o2,c2,rfl,_⟩:=Row.anyN hr2
 have k0:=hK3.head.cell (i:=0) rfl
 obtain ⟨A,B,t1,t2,hA,hBB,t3,t4⟩:=known_nums (n+1) n (by omega) (by omega)
 have hfk:=HF.out.fkd.symm
 rw[←hA,←hBB] at hfk
 have j3:(B:Int)≤(d.size:Int):=by omega
 have HAB:=hide (And.intro hA (And.intro hBB hd))
 clear hA hBB hd
 obtain ⟨w4,hw4⟩:∃ x,w3.alloc (.cells #[.slice o1 n c1,.slice o2 n c2,.string mac] 70)=x:=⟨_,rfl⟩
 rw[hw4] at HK3 k0
 clear hr1 hr2 hb3 hbB hbC hB3 hK3 HPA HB2 HBE2 c4 f1 c40 HT HV
 go_wp2
 clear k0
 obtain ⟨fc,hfc⟩:∃ x,fileCells (.slice ao n cp) text d b (T:Nat) ⟨#[]⟩ (.slice none 0 0)=x:=⟨_,rfl⟩
 rw[hfc] at HK3
 have HFC:=hide hfc
 clear hfc t1 t2 t3 t4
 obtain ⟨hb,hhb⟩:∃ x:Nat,w3.heap.size=x:=⟨_,rfl⟩
 rw[hhb] at HK3 ⊢
 go_loopw [15] (fun v wr=>∃ i:Nat,i≤n∧v = .int .i64 (i:Nat)∧KN w fc hb (.slice o1 n c1) (.slice o2 n c2) mac (.slice ao n cp) l ss bs wr) (fun v _=>n-(intOf v).toNat)
 case atStart=>exact ⟨0,Nat.zero_le _,rfl,HK3.out⟩
 case round=>
  clear HK3
  obtain ⟨i,hi,rfl,hK⟩:=hrel
  have HK:=hide hK
  by_cases hlt:i<n
  ·have jl:(i:Int)<(n:Int):=by omega
   obtain ⟨g0,p0,q0,hv0,hgl0,e0⟩:=hK.s0.at i (by rw[HF.out.hn];exact hlt)
   injection hv0 with hv0 hv0n hv0c
   clear hv0n
   obtain ⟨g1,p1,q1,hv1,hgl1,e1⟩:=hK.s1.at i (by rw[HF.out.nss];exact hlt)
   injection hv1 with hv1 hv1n hv1c
   clear hv1n
   obtain ⟨g2,p2,q2,hv2,hgl2,e2⟩:=hK.s2.at i (by rw[HF.out.ok.nb,HF.out.nss];exact hlt)
   injection hv2 with hv2 hv2n hv2c
   clear hv2n
   subst hv0
   subst hv0c
   subst hv1
   subst hv1c
   subst hv2
   subst hv2c
   have hsal:=HF.out.sal i hlt
   have hbod:=HF.out.bod i hlt
   have hm32:(l.getD i ⟨#[]⟩).size=32:=by
    have hil:i<l.length:=by rw[HF.out.hn];exact hlt
    rw[List.getD_eq_getElem?_getD,List.getElem?_eq_getElem hil]
    exact HM.out _ (List.getElem_mem hil)
   have hs16:(ss.getD i ⟨#[]⟩).size≤16:=by rw[hsal,ByteArray.size_extract];omega
   obtain ⟨A1,B1,t1,t2,hA1,hB1,t3,t4⟩:=known_nums n i (by omega) hlt
   rw[←hA1,←hB1] at hsal
   have j4:(B1:Int)≤(d.size:Int):=by have:=HAB.out.2.2;omega
   have hfz:=HF.out.fk
   generalize l.getD i ⟨#[]⟩=mi at *
   generalize ss.getD i ⟨#[]⟩=si at *
   generalize bs.getD i ⟨#[]⟩=bi at *
   have k0:=hK.head.cell (i:=0) rfl
   have hhl:hb<wr.heap.size:=hK.head.lt
   have HKY:=hide (kKey_any mi si ⟨#[119,114,97,112]⟩ wr.drew (by omega) (by omega) (by decide) hK.tb.k hK.tb.h hK.tb.two)
   rw[show (expO (macL si.data.toList mi.data.toList) (⟨#[119,114,97,112]⟩:ByteArray).data.toList 1).take 32=Ref.keyL mi.data.toList si.data.toList Ref.inWrap from rfl] at HKY
   have hkz:(⟨(Ref.keyL mi.data.toList si.data.toList Ref.inWrap).toArray⟩:ByteArray).size=32:=by rw[two_size,Ref.keyL_len]
   have HSE:=hide (fun w=>sealAt ⟨(Ref.keyL mi.data.toList si.data.toList Ref.inWrap).toArray⟩ ⟨(nought 12).toArray⟩ FK w hkz rfl (by omega))
   rw[two_toList,two_toList,←hbod] at HSE
   generalize (⟨(Ref.keyL mi.data.toList si.data.toList Ref.inWrap).toArray⟩:ByteArray)=kk at *
   have HLT:=hide hlt
   have HCL:=hide (And.intro e1 e2)
   have HGL:=hide (And.intro hgl1 hgl2)
   have hs1:=hsal.symm
   clear hK hbod hsal hkz hlt hA1 hB1 hs16 hm32 hfz hi
   go_wp2
   go_region_held3 (fun w'=>w'.cell? ⟨g0,p0+i,none⟩=some (.string mi)∧w'.cell? ⟨hb,0,none⟩=some (.slice (some ⟨g1,p1,none⟩) n c1)∧w'.cell? ⟨g1,p1+i,none⟩=some (.string si)) (refine ⟨?_,?_,?_⟩ <;> first | assumption | (exact (hb5.cell hgl0).trans (by assumption)) | (exact (hb5.cell hhl).trans (by assumption)) | (exact (hb5.cell hgl1).trans (by assumption))) ((go_at_call 32;refine HKY.out.mono ?_;rintro e w5 ⟨rfl,hb5⟩))
   rename_i hH
   clear hH
   have hbd:Below wr.heap.size wr w5:=(show Below wr.heap.size wr wr.drew from ⟨rfl,rfl,rfl,Nat.le_refl _,fun _ _=>rfl⟩).trans hb5
   have K5:=hide (HK.out.after hbd)
   have HC5:=hide (And.intro ((hbd.cell HGL.out.1).trans HCL.out.1) ((hbd.cell HGL.out.2).trans HCL.out.2))
   have HG5:=hide (show g1<w5.heap.size∧g2<w5.heap.size from ⟨Nat.lt_of_lt_of_le HGL.out.1 hbd.size,Nat.lt_of_lt_of_le HGL.out.2 hbd.size⟩)
   clear hb5 hbd HK HCL HGL HKY k0 e0 e1 e2 hgl0 hgl1 hgl2 hhl
   go_wp2_with fail
   refine (zeros_any _).mono ?_
   rintro e w6 ⟨rfl,hb6⟩
   have K6:=hide (K5.out.after hb6)
   have HC6:=hide (And.intro ((hb6.cell HG5.out.1).trans HC5.out.1) ((hb6.cell HG5.out.2).trans HC5.out.2))
   have HG6:=hide (show g1<w6.heap.size∧g2<w6.heap.size from ⟨Nat.lt_of_lt_of_le HG5.out.1 hb6.size,Nat.lt_of_lt_of_le HG5.out.2 hb6.size⟩)
   clear hb6 K5 HC5 HG5
   go_wp2_with fail
   refine (HSE.out _).mono ?_
   rintro e w7 ⟨rfl,hb7⟩
   have K7:=hide (K6.out.after hb7)
   have d1:=(hb7.cell HG6.out.1).trans HC6.out.1
   have d2:=(hb7.cell HG6.out.2).trans HC6.out.2
   have k0:=K7.out.head.cell (i:=0) rfl
   have k1:=K7.out.head.cell (i:=1) rfl
   clear hb7 K6 HC6 HG6 HSE
   go_wp2
   go_quiet (fail)
   go_wp2
   go_roundw
   case rel=>exact ⟨i+1,HLT.out,by go_num,K7.out.after (below_drewN (Below.refl _ _) _)⟩
   case measure=>have:=HLT.out;simp[intOf];omega
  ·obtain rfl:i=n:=by omega
   have jl:¬ (i:Int)<(i:Int):=by omega
   have hfz:=HF.out.fk
   have hpz:=HF.out.pd
   have HKH:=hide (kKey_any FK ⟨#[]⟩ ⟨#[104,101,97,100,101,114]⟩ wr (by omega) (by decide) (by decide) hK.tb.k hK.tb.h hK.tb.two)
   rw[show (expO (macL (⟨#[]⟩:ByteArray).data.toList FK.data.toList) (⟨#[104,101,97,100,101,114]⟩:ByteArray).data.toList 1).take 32=Ref.keyL FK.data.toList [] Ref.inHead from rfl] at HKH
   obtain ⟨E,hE⟩:∃ E:Nat,T-45=E:=⟨_,rfl⟩
   have tE:(T:Int)-45=(E:Int):=by omega
   have jE:(E:Int)≤(N:Int):=by omega
   have hmc:=HF.out.mc
   rw[HHT.out,hE] at hmc
   have HMA:=hide (fun (w':World) (t:Tabs w')=>hmac_any ⟨(Ref.keyL FK.data.toList [] Ref.inHead).toArray⟩ (b.extract 0 E) w' (by rw[two_size,Ref.keyL_len];decide) (by rw[ByteArray.size_extract];omega) t.k t.h t.two)
   rw[two_toList,hmc] at HMA
   have HMM:=hide (show (⟨mac.data.toList.toArray⟩:ByteArray)=mac from ba_ext rfl)
   rw[HMM.out] at HMA
   generalize (⟨(Ref.keyL FK.data.toList [] Ref.inHead).toArray⟩:ByteArray)=hk at *
   have hpd:=HF.out.e1
   rw[HHT.out] at hpd
   have hpdd:=HF.out.pdd.symm
   have HKP:=hide (fun (w':World) (t:Tabs w')=>kKey_any FK PD ⟨#[112,97,121,108,111,97,100]⟩ w' (by omega) (by omega) (by decide) t.k t.h t.two)
   rw[show (expO (macL PD.data.toList FK.data.toList) (⟨#[112,97,121,108,111,97,100]⟩:ByteArray).data.toList 1).take 32=Ref.keyL FK.data.toList PD.data.toList Ref.inBody from rfl,←HF.out.key,show (⟨KY.data.toList.toArray⟩:ByteArray)=KY from ba_ext rfl] at HKP
   obtain ⟨T2,hT2⟩:∃ x:Nat,T+16=x:=⟨_,rfl⟩
   rw[hT2] at hpd
   have tT2:(T:Int)+16=(T2:Int):=by omega
   have jT2:(T2:Int)≤(N:Int):=by omega
   have jT1:(T:Int)≤(T2:Int):=by omega
   obtain ⟨B5,hB5⟩:∃ x:Nat,(i+1)*16=x:=⟨_,rfl⟩
   have tB5:((i:Int)+1)*16=(B5:Int):=by omega
   have jB5:(B5:Int)≤(d.size:Int):=by have:=HAB.out.2.2;omega
   rw[hB5] at hpdd
   have hbe:(b.extract T2 N).data.toList=Ref.encF KY.data.toList text.data.toList:=by
    have h:=HF.out.e2
    rw[HHT.out,hT2,HBN.out] at h
    exact h
   have HBX:=hide (fun w=>boxes_any (b.extract T2 N) w (by rw[ByteArray.size_extract];omega))
   have hbn:Ref.boxN (b.extract T2 N).size=Ref.full text.size+1:=by
    rw[←ba_len,hbe,Ref.encF_boxN (by rw[ba_len,HF.out.ky]),ba_len]
   rw[hbn,hbe] at HBX
   have HK:=hide hK
   clear hK hmc hE hT2 hB5 hbe hbn hfz hpz hi
   go_wp2_with fail
   refine HKH.out.mono ?_
   rintro e w5 ⟨rfl,hb5⟩
   have K5:=hide (HK.out.after hb5)
   have HM5:=hide (HMA.out w5 K5.out.tb)
   have hf5:=K5.out.file
   rw[←HFC.out] at hf5
   have q4:=hf5.cell (i:=4) rfl
   clear hb5 HK HKH HMA hf5
   go_wp2_with fail
   refine HM5.out.mono ?_
   rintro e w6 ⟨rfl,hb6⟩
   have K6:=hide (K5.out.after hb6)
   have hf6:=K6.out.file
   rw[←HFC.out] at hf6
   have q4:=hf6.cell (i:=4) rfl
   have k2:=K6.out.head.cell (i:=2) rfl
   clear hb6 K5 HM5 hf6
   go_wp2
   go_quiet (fail)
   have K6b:=hide (K6.out.after (below_drewN (Below.refl _ _) nq))
   obtain ⟨w6b,hw6b⟩:∃ x,w6.drewN nq=x:=⟨_,rfl⟩
   rw[hw6b] at K6b
   have hk2:w6b.cell? ⟨hb,2,none⟩=some (.string mac):=K6b.out.head.cell (i:=2) rfl
   have HK6:=hide (HKP.out w6b K6b.out.tb)
   rw[hw6b]
   clear hw6b K6 HKP k2 q4
   go_wp2_with fail
   refine HK6.out.mono ?_
   rintro e w7 ⟨rfl,hb7⟩
   have K7:=hide (K6b.out.after hb7)
   have hf7:=K7.out.file
   rw[←HFC.out] at hf7
   have f7:=hf7.frozen
   have q5:=hf7.cell (i:=5) rfl
   have hf8:=hf7.setCell_same 5 (.string KY)
   have q4:=hf8.cell (i:=4) rfl
   have HF8:=hide (show Blk (w7.setCell ⟨w.heap.size,5,none⟩ (.string KY)) w.heap.size 27 (fileCells (.slice ao i cp) text d b (T:Nat) KY (.slice none 0 0)) from hf8)
   have HB8:=hide (K7.out.be.setCell (p:=⟨w.heap.size,5,none⟩) (Nat.le_refl _) (.string KY))
   have HS8:=hide (HV2.out.below HB8.out HV2.out.blt)
   obtain ⟨w8,hw8⟩:∃ x,w7.setCell ⟨w.heap.size,5,none⟩ (.string KY)=x:=⟨_,rfl⟩
   rw[hw8] at q4 HF8 HB8 HS8
   clear hb7 K6b HK6 hf7 hf8 K7 hk2
   go_wp2_with fail
   refine (HBX.out _).mono ?_
   rintro e w9 ⟨vb,rfl,hr9,hb9⟩
   have HF9:=hide (HF8.out.below hb9 HF8.out.lt)
   have HB9:=hide (HB8.out.trans (hb9.mono HB8.out.size))
   have f9:=HF9.out.frozen
   have q6:=HF9.out.cell (i:=6) rfl
   obtain ⟨o9,c9,rfl,_⟩:=Row.anyN hr9
   obtain ⟨M,hM⟩:∃ x:Nat,Ref.full text.size+1=x:=⟨_,rfl⟩
   rw[hM] at hr9
   have hG:=((World.grownBy.refl w9 (some w.heap.size)).setCell 6 (.slice o9 M c9))
   have hlt8:w.heap.size<w8.heap.size:=HF8.out.lt
   have hr10:=hr9.kept hG (by
    cases hv:(Value.slice o9 M c9).ownBlock with
    | none=>exact .inl rfl
    | some g=>
     refine .inr fun e=>?_
     injection e with e
     have:=(hr9.lt g hv).1
     omega)
   have HF10:=hide (show Blk (w9.setCell ⟨w.heap.size,6,none⟩ (.slice o9 M c9)) w.heap.size 27 (fileCells (.slice ao i cp) text d b (T:Nat) KY (.slice o9 M c9)) from HF9.out.setCell_same 6 _)
   have HB10:=hide (HB9.out.setCell (p:=⟨w.heap.size,6,none⟩) (Nat.le_refl _) (.slice o9 M c9))
   have hS10:Strs (w9.setCell ⟨w.heap.size,6,none⟩ (.slice o9 M c9)) (.slice o9 M c9) (Ref.boxesL (Ref.encF KY.data.toList text.data.toList) M):=Row.strs (by rw[Ref.boxesL_len];exact hr10)
   have HS10:=hide hS10
   have HSL:=hide (fsealed_any w.heap.size _ _ text d b KY (T:Nat) (Ref.boxesL (Ref.encF KY.data.toList text.data.toList) M) _ HF10.out hS10 HF.out.ky hx (by rw[Ref.boxesL_len,hM]) (boxes_right HF.out.ky hM))
   have HVB:=hide (HV2.out.below HB10.out HV2.out.blt)
   rw[hM]
   obtain ⟨w10,hw10⟩:∃ x,w9.setCell ⟨w.heap.size,6,none⟩ (.slice o9 M c9)=x:=⟨_,rfl⟩
   rw[hw10] at HF10 HB10 HS10 HSL HVB
   have HMM2:=hide hM
   clear hr9 hr10 hb9 hG hS10 HF8 HB8 HS8 HF9 HB9 HBX q4 hM
   go_wp2_with fail
   refine HSL.out.mono ?_
   rintro e w11 ⟨rfl,hb11⟩
   have HF11:=hide (HF10.out.below hb11 HF10.out.lt)
   have HS11:=hide (HS10.out.after hb11)
   have HV11:=hide (HVB.out.after hb11)
   have HB11:=hide (HB10.out.trans (hb11.mono HB10.out.size))
   clear HSL hb11 HF10 HS10 HVB HB10
   go_wp2
   refine bodyPost_ret (results_tmp2 rfl _ _ _) rfl ?_
   exact ⟨_,rfl,⟨by rw[HHT.out];exact HF11.out,HV11.out,by rw[HMM2.out];exact HS11.out⟩,HB11.out⟩
theorem tx_all (tx:ByteArray):tx.extract 0 tx.size=tx:=ba_ext (by rw[ext_take,List.take_of_length_le (by rw[ba_len];exact Nat.le_refl _)])
theorem tx_end (tx:ByteArray):ByteArray.empty=tx.extract tx.size tx.size:=ba_ext (by rw[sub_list];simp)
theorem tx_none (tx:ByteArray):tx.extract 0 0=ByteArray.empty:=ba_ext (by rw[sub_list];simp)
theorem piece_call {X tx:ByteArray} {j:Nat} (h:X.extract j X.size=tx) (a:ByteArray) (n:Nat) (ha:tx.extract 0 n=a) {v:Value} {w:World} {Q:Ending→World→Prop} (hc:Calls Tryz.prog 50 #[v,.string ((X.extract j X.size).extract 0 n)] w Q):Calls Tryz.prog 50 #[v,.string a] w Q:=by
 rw[h,ha] at hc
 exact hc
theorem tx_drop {X tx:ByteArray} {j:Nat} (h:X.extract j X.size=tx) (hj:j≤X.size) (n:Nat) {y:ByteArray} (hy:y=tx.extract n tx.size):y=X.extract (j+n) X.size:=by
 subst hy
 subst h
 apply ba_ext
 have hz:(X.extract j X.size).size=X.size-j:=by rw[ByteArray.size_extract];omega
 rw[hz,sub_list,sub_list,sub_list,List.drop_take,List.drop_drop,List.take_take]
 congr 1
 omega
theorem Snk.ok_nil {k:Snk} (h:k.plan=[]) (t:ByteArray):k.ok t=true:=by
 unfold Snk.ok sinkN
 rw[h,if_neg (by simp)]
 simp
def OkN (wb sk g:Nat) (key X:ByteArray) (hd:List UInt8) (j:Nat) (w:World):Prop:=∃ s:Ref.Wr,WRep wb sk g key s w∧Ref.Good key.data.toList X.data.toList hd j s∧s.n≤j∧s.k.got.size≤2000+32*j∧s.k.pos≤2+j∧s.k.plan=[]
def WroteN (wb sk g:Nat) (key X:ByteArray) (hd:List UInt8) (j n:Nat) (w:World) (e:Ending) (w':World):Prop:=
 e = .returned (.tuple #[.int .i64 (n:Nat),.int .i64 0])∧OkN wb sk g key X hd (j+n) w'∧Chg (fun x=>x=wb∨x=sk) w w'
theorem write_okN {w1:World} {wb sk g:Nat} {key X:ByteArray} {hd:List UInt8} {j:Nat} (n:Nat) (h:OkN wb sk g key X hd j w1) (hkey:key.size=32) (hX:X.size≤268435456) (hj:j+n≤X.size) (hwk:wb≠sk) (hwg:wb≠g) (hgk:g≠sk):
  Calls Tryz.prog 50 #[.pointer (some ⟨wb,0,none⟩),.string ((X.extract j X.size).extract 0 n)] w1 (WroteN wb sk g key X hd j n w1):=by
 obtain ⟨s,hR,hG,b1,b2,b3,b4⟩:=h
 obtain ⟨p,hp⟩:∃ p,(X.extract j X.size).extract 0 n=p:=⟨_,rfl⟩
 have hpl:p.data.toList=(X.data.toList.drop j).take n:=by rw[←hp,ext_take,sub_list,List.take_take,Nat.min_eq_left (by omega)]
 have hpn:p.data.toList.length=n:=by rw[hpl,List.length_take,List.length_drop,ba_len];omega
 have hps:p.size=n:=by rw[←ba_len,hpn]
 have hget:∀ i,i<p.data.toList.length→p.data.toList.getD i 0=X.data.toList.getD (j+i) 0:=by
  intro i hi
  rw[hpn] at hi
  rw[hpl,List.getD_eq_getElem?_getD,List.getD_eq_getElem?_getD,List.getElem?_take,if_pos hi,List.getElem?_drop]
 have hat:=hG.at p.data.toList hget (by rw[hpn,ba_len];exact hj)
 have hft:=Ref.Wr.at_fits s hR.t16 key.data.toList p.data.toList
 rw[hp]
 refine (write_any wb sk g key s p w1 hR hkey hwk hwg hgk (by omega) (by omega) (by omega)).mono ?_
 rintro e w2 (⟨r,hr,rfl,hR2,hC⟩ | ⟨i,r,hi,hr,h16,hok,rfl,hW,hS,hC⟩)
 ·rw[hps] at hr ⊢
  have f:=hft n r hr
  have f1:=f.n
  have f2:=f.got
  have f3:=f.pos
  exact ⟨rfl,⟨r,hR2,hat n r (by omega) hr,by omega,by omega,by omega,f.plan.trans b4⟩,hC⟩
 ·rw[Snk.ok_nil ((hft i r hr).plan.trans b4)] at hok
  cases hok
def ClosedN (wb sk g:Nat) (F:List UInt8) (w:World) (e:Ending) (w':World):Prop:=e = .returned (.int .i64 0)∧WEnd wb 14 w'∧(∃ k:Snk,Blk w' sk 96 (k.cells g)∧k.got=⟨F.toArray⟩)∧Chg (fun x=>x=wb∨x=sk) w w'
theorem close_okN {w1:World} {wb sk g:Nat} {key X:ByteArray} {hd:List UInt8} (h:OkN wb sk g key X hd X.size w1) (hkey:key.size=32) (hX:X.size≤268435456) (hwk:wb≠sk):
  Calls Tryz.prog 51 #[.pointer (some ⟨wb,0,none⟩)] w1 (ClosedN wb sk g (hd++Ref.encF key.data.toList X.data.toList) w1):=by
 obtain ⟨s,hR,hG,b1,b2,b3,b4⟩:=h
 rw[←ba_len] at hG
 refine (close_any wb sk g key s w1 hR hkey hwk (by omega) (by omega) (by omega)).mono ?_
 rintro e w2 ⟨rfl,hW,hS,hC⟩
 have hok:=Snk.ok_nil b4 (s.box key.data.toList true)
 have he:s.k.err (s.box key.data.toList true)=0:=by unfold Snk.err;rw[hok];rfl
 rw[hok] at hW
 rw[he]
 exact ⟨rfl,hW,⟨_,hS,ba_ext (by rw[hG.closed hok])⟩,hC⟩
def LoopN (w:World) (wb sk g:Nat) (key X:ByteArray) (hd:List UInt8) (vt vk:Value) (wr:World):Prop:=∃ j k:Nat,j≤X.size∧k≤101+j∧vt = .string (X.extract j X.size)∧vk = .int .i64 k∧OkN wb sk g key X hd j wr∧Chg (fun x=>x=wb∨x=sk) w wr
set_option maxRecDepth 100000 in
set_option maxHeartbeats 3200000 in
theorem written_any (wb sk g:Nat) (key text:ByteArray) (hd:List UInt8) (turn:Int) (w:World) (h0:OkN wb sk g key text hd 0 w) (hkey:key.size=32) (hx:text.size≤268435456) (t1 : -9223372036854775808≤turn) (t2:turn≤9223372036854775807) (hwk:wb≠sk) (hwg:wb≠g) (hgk:g≠sk):
  Calls Tryz.prog 23 #[.pointer (some ⟨wb,0,none⟩),.string text,.int .i64 turn] w fun e w'=>e = .returned (.bool true)∧(∃ k:Snk,Blk w' sk 96 (k.cells g)∧k.got=⟨(hd++Ref.encF key.data.toList text.data.toList).toArray⟩)∧Chg (fun x=>x=wb∨x=sk) w w':=by
 have HPI:=hide (fun k w hk=>piece_any turn k w t1 t2 hk)
 have HX:=hide hx
 have HKY:=hide hkey
 have HNE:=hide (And.intro hwk (And.intro hwg hgk))
 have H0:=hide h0
 have HX0:=hide (show text.extract 0 text.size=text from tx_all text)
 clear h0 hx hkey t1 t2 hwk hwg hgk
 go_enter Tryz.func23,Tryz.ntmps23
 go_wp2
 go_loopw [1,7] (fun vt vk wr=>LoopN w wb sk g key text hd vt vk wr) (fun vt vk _=>2*strLen vt+(102+text.size-(intOf vk).toNat))
 case atStart=>exact ⟨0,0,Nat.zero_le _,Nat.zero_le _,by rw[HX0.out],rfl,H0.out,Chg.refl _ _⟩
 case round=>
  clear H0 HX0
  obtain ⟨j,k,hj,hk,rfl,rfl,hok,hch⟩:=hrel
  have hxb:=HX.out
  obtain ⟨tx,htx⟩:∃ x,text.extract j text.size=x:=⟨_,rfl⟩
  have hts:tx.size=text.size-j:=by rw[←htx,ByteArray.size_extract];omega
  rw[htx]
  have HTX:=hide htx
  have HTS:=hide hts
  have HJ:=hide hj
  have HKB:=hide (show k≤268435557∧tx.size≤268435456 by omega)
  have HKJ:=hide hk
  have kb:(k:Int)≤268435557:=by omega
  have tb:(tx.size:Int)≤268435456:=by omega
  have HOK:=hide hok
  have HCH:=hide hch
  clear htx hts hj hxb hk hok hch
  by_cases hgo:0<tx.size∨k<2
  ·have HPK:=hide (fun w=>HPI.out k w (by have:=HKB.out;omega))
   by_cases h0:0<tx.size
   ·have j0:(0:Int)<(tx.size:Int):=by omega
    go_wp2_with fail
    refine (HPK.out _).mono ?_
    rintro e w9 ⟨n,hn,rfl,rfl⟩
    clear HPK
    by_cases hnm:tx.size<n
    ·have j1:(tx.size:Int)<(n:Int):=by omega
     have HWO:=hide (show Calls Tryz.prog 50 #[.pointer (some ⟨wb,0,none⟩),.string tx] w9 (WroteN wb sk g key text hd j (tx.size) w9) from piece_call HTX.out tx (tx.size) (by exact tx_all tx) (write_okN (tx.size) HOK.out HKY.out HX.out (by have:=HTS.out;have:=HJ.out;omega) HNE.out.1 HNE.out.2.1 HNE.out.2.2))
     clear HOK
     go_wp2_with fail
     refine HWO.out.mono ?_
     rintro e w10 ⟨rfl,hok2,hc10⟩
     have H2:=hide hok2
     have HC10:=hide (HCH.out.trans hc10)
     clear hok2 hc10 HWO
     go_wp2
     go_roundw
     case rel=>exact ⟨j+(tx.size),k+1,by have:=HTS.out;have:=HJ.out;omega,by have:=HKJ.out;omega,congrArg Value.string (tx_drop HTX.out HJ.out (tx.size) (tx_end tx)),by go_num,H2.out,HC10.out⟩
     case measure=>have:=HKJ.out;have:=HTS.out;have:=HJ.out;simp[intOf,strLen];omega
    ·have j1:¬ (tx.size:Int)<(n:Int):=by omega
     by_cases hn0:n=0
     ·subst hn0
      by_cases hk1:100<k
      ·have j2:(100:Int)<(k:Int):=by omega
       have HWO:=hide (show Calls Tryz.prog 50 #[.pointer (some ⟨wb,0,none⟩),.string tx] w9 (WroteN wb sk g key text hd j (tx.size) w9) from piece_call HTX.out tx (tx.size) (by exact tx_all tx) (write_okN (tx.size) HOK.out HKY.out HX.out (by have:=HTS.out;have:=HJ.out;omega) HNE.out.1 HNE.out.2.1 HNE.out.2.2))
       clear HOK
       go_wp2_with fail
       refine HWO.out.mono ?_
       rintro e w10 ⟨rfl,hok2,hc10⟩
       have H2:=hide hok2
       have HC10:=hide (HCH.out.trans hc10)
       clear hok2 hc10 HWO
       go_wp2
       go_roundw
       case rel=>exact ⟨j+(tx.size),k+1,by have:=HTS.out;have:=HJ.out;omega,by have:=HKJ.out;omega,congrArg Value.string (tx_drop HTX.out HJ.out (tx.size) (tx_end tx)),by go_num,H2.out,HC10.out⟩
       case measure=>have:=HKJ.out;have:=HTS.out;have:=HJ.out;simp[intOf,strLen];omega
      ·have j2:¬ (100:Int)<(k:Int):=by omega
       have HWO:=hide (show Calls Tryz.prog 50 #[.pointer (some ⟨wb,0,none⟩),.string ByteArray.empty] w9 (WroteN wb sk g key text hd j (0) w9) from piece_call HTX.out ByteArray.empty (0) (by exact tx_none tx) (write_okN (0) HOK.out HKY.out HX.out (by have:=HTS.out;have:=HJ.out;omega) HNE.out.1 HNE.out.2.1 HNE.out.2.2))
       clear HOK
       go_wp2_with fail
       refine HWO.out.mono ?_
       rintro e w10 ⟨rfl,hok2,hc10⟩
       have H2:=hide hok2
       have HC10:=hide (HCH.out.trans hc10)
       clear hok2 hc10 HWO
       go_wp2
       go_roundw
       case rel=>exact ⟨j+(0),k+1,by have:=HTS.out;have:=HJ.out;omega,by have:=HKJ.out;omega,congrArg Value.string (tx_drop HTX.out HJ.out (0) ((tx_all tx).symm)),by go_num,H2.out,HC10.out⟩
       case measure=>have:=HKJ.out;have:=HTS.out;have:=HJ.out;simp[intOf,strLen];omega
     ·have z0:((n:Int)==0)=false:=beq_eq_false_iff_ne.2 (by omega)
      have hle:n≤tx.size:=by omega
      have HWO:=hide (show Calls Tryz.prog 50 #[.pointer (some ⟨wb,0,none⟩),.string (tx.extract 0 n)] w9 (WroteN wb sk g key text hd j (n) w9) from piece_call HTX.out (tx.extract 0 n) (n) (by exact rfl) (write_okN (n) HOK.out HKY.out HX.out (by have:=HTS.out;have:=HJ.out;omega) HNE.out.1 HNE.out.2.1 HNE.out.2.2))
      clear HOK
      go_wp2_with fail
      refine HWO.out.mono ?_
      rintro e w10 ⟨rfl,hok2,hc10⟩
      have H2:=hide hok2
      have HC10:=hide (HCH.out.trans hc10)
      clear hok2 hc10 HWO
      go_wp2
      go_roundw
      case rel=>exact ⟨j+(n),k+1,by have:=HTS.out;have:=HJ.out;omega,by have:=HKJ.out;omega,congrArg Value.string (tx_drop HTX.out HJ.out (n) (rfl)),by go_num,H2.out,HC10.out⟩
      case measure=>have:=HKJ.out;have:=HTS.out;have:=HJ.out;simp[intOf,strLen];omega
   ·have j0:¬ (0:Int)<(tx.size:Int):=by omega
    have hk2:k<2:=by omega
    have jk:(k:Int)<2:=by omega
    go_wp2_with fail
    refine (HPK.out _).mono ?_
    rintro e w9 ⟨n,hn,rfl,rfl⟩
    clear HPK
    by_cases hnm:tx.size<n
    ·have j1:(tx.size:Int)<(n:Int):=by omega
     have HWO:=hide (show Calls Tryz.prog 50 #[.pointer (some ⟨wb,0,none⟩),.string tx] w9 (WroteN wb sk g key text hd j (tx.size) w9) from piece_call HTX.out tx (tx.size) (by exact tx_all tx) (write_okN (tx.size) HOK.out HKY.out HX.out (by have:=HTS.out;have:=HJ.out;omega) HNE.out.1 HNE.out.2.1 HNE.out.2.2))
     clear HOK
     go_wp2_with fail
     refine HWO.out.mono ?_
     rintro e w10 ⟨rfl,hok2,hc10⟩
     have H2:=hide hok2
     have HC10:=hide (HCH.out.trans hc10)
     clear hok2 hc10 HWO
     go_wp2
     go_roundw
     case rel=>exact ⟨j+(tx.size),k+1,by have:=HTS.out;have:=HJ.out;omega,by have:=HKJ.out;omega,congrArg Value.string (tx_drop HTX.out HJ.out (tx.size) (tx_end tx)),by go_num,H2.out,HC10.out⟩
     case measure=>have:=HKJ.out;have:=HTS.out;have:=HJ.out;simp[intOf,strLen];omega
    ·have j1:¬ (tx.size:Int)<(n:Int):=by omega
     have hn0:n=0:=by omega
     subst hn0
     have j2:¬ (100:Int)<(k:Int):=by omega
     have HWO:=hide (show Calls Tryz.prog 50 #[.pointer (some ⟨wb,0,none⟩),.string ByteArray.empty] w9 (WroteN wb sk g key text hd j (0) w9) from piece_call HTX.out ByteArray.empty (0) (by exact tx_none tx) (write_okN (0) HOK.out HKY.out HX.out (by have:=HTS.out;have:=HJ.out;omega) HNE.out.1 HNE.out.2.1 HNE.out.2.2))
     clear HOK
     go_wp2_with fail
     refine HWO.out.mono ?_
     rintro e w10 ⟨rfl,hok2,hc10⟩
     have H2:=hide hok2
     have HC10:=hide (HCH.out.trans hc10)
     clear hok2 hc10 HWO
     go_wp2
     go_roundw
     case rel=>exact ⟨j+(0),k+1,by have:=HTS.out;have:=HJ.out;omega,by have:=HKJ.out;omega,congrArg Value.string (tx_drop HTX.out HJ.out (0) ((tx_all tx).symm)),by go_num,H2.out,HC10.out⟩
     case measure=>have:=HKJ.out;have:=HTS.out;have:=HJ.out;simp[intOf,strLen];omega
  ·have hte:tx=ByteArray.empty:=ba_ext (by
    have h0:tx.data.toList.length=0:=by rw[ba_len];omega
    rw[List.eq_nil_of_length_eq_zero h0]
    rfl)
   have jk:¬ (k:Int)<2:=by omega
   have z2:decide ((k:Int)<2)=false:=decide_eq_false jk
   have hjx:j=text.size:=by have:=HTS.out;have:=HJ.out;omega
   have HCL:=hide (close_okN (by have h:=HOK.out;rw[hjx] at h;exact h) HKY.out HX.out HNE.out.1)
   clear HOK hjx HPI hgo
   subst hte
   go_wp2_with fail
   refine HCL.out.mono ?_
   rintro e w10 ⟨rfl,hW,hS,hc10⟩
   have HC10:=hide (HCH.out.trans hc10)
   have HCE:=hide (close_end wb 14 w10 hW (by decide))
   have HWE:=hide (fun m=>write_end wb 14 ⟨#[120]⟩ (w10.drewN m) (Blk.drewN hW m) (by decide))
   obtain ⟨K,hS,hg⟩:=hS
   have HS:=hide (And.intro hS hg)
   clear hW hS hg hc10 HCL
   go_wp2_with fail
   refine HCE.out.mono ?_
   rintro e w11 ⟨rfl,m1,rfl⟩
   clear HCE
   go_wp2_with fail
   refine (HWE.out m1).mono ?_
   rintro e w12 ⟨rfl,m2,rfl⟩
   clear HWE
   go_wp2
   go_ret
   exact ⟨rfl,⟨K,Blk.drewN HS.out.1 (m1+m2),HS.out.2⟩,HC10.out.trans (Chg.of_below (below_drewN (Below.refl _ _) (m1+m2)))⟩
theorem Strs.chg {S:Nat→Prop} {w w':World} {v:Value} {l:List ByteArray} (h:Strs w v l) (hC:Chg S w w') (hb:∀ g o n c,v = .slice (some ⟨g,o,none⟩) n c→0<l.length→¬ S g):Strs w' v l:=by
 have hlt:=h.blt
 rcases h with h | ⟨g,o,c,rfl,hc⟩
 ·exact .inl h
 ·refine .inr ⟨g,o,c,rfl,fun i x hx=>?_⟩
  have hl:0<l.length:=Nat.lt_of_le_of_lt (Nat.zero_le i) (List.getElem?_eq_some_iff.1 hx).1
  have h1:=hC.block g (hlt g o _ c rfl hl) (hb g o _ c rfl hl)
  have h2:=hc i x hx
  unfold World.cell? at h2 ⊢
  rw[h1]
  exact h2
theorem FlS.chg {S:Nat→Prop} {w:World} {v:Value} {l:List ByteArray} {wi wj:World} (h:FlS w v l wi) (hC:Chg S wi wj) (hS:∀ k,S k→w.heap.size≤k) (hv:∀ g o n c,v = .slice (some ⟨g,o,none⟩) n c→0<l.length→¬ S g):FlS w v l wj:=
 ⟨h.two,hC.tabs h.tabs (fun e=>by have:=hS 0 e;have:=h.two;omega) (fun e=>by have:=hS 1 e;have:=h.two;omega),h.strs.chg hC hv,h.be.trans ⟨hC.os,hC.tape,hC.output,hC.size,fun k hk=>hC.block k (Nat.lt_of_lt_of_le hk h.be.size) (fun e=>by have:=hS k e;omega)⟩⟩
def restB:ByteArray:=⟨#[114,101,115,116]⟩
def MadeP (text:ByteArray) (w:World) (e:Ending) (w':World):Prop:=∃ fb v vb l d,e = .returned (.tuple #[.pointer (some ⟨fb,0,none⟩),.bool true])∧w.heap.size≤fb∧1≤l.length∧l.length≤3∧(∀ m ∈ l,m.size=32)∧d.size=16*(l.length+2)∧FileR fb v vb l d text (fileB l d text) (Ref.head l d 0) (Ref.pkey l d 0) w'∧Below w.heap.size w w'∧Tabs w'
theorem made_start {l:List ByteArray} {d:ByteArray} (text:ByteArray) (hd:d.size=16*(l.length+2)) (h1:1≤l.length) (h3:l.length≤3) (hm:∀ m ∈ l,m.size=32) {wb sk g:Nat} {w:World} (hR:WRep wb sk g (Ref.pkey l (d++restB) 0) ⟨0,[],Ref.newK l (d++restB) 0 ⟨⟨#[]⟩,[],0⟩⟩ w):
  OkN wb sk g (Ref.pkey l d 0) text ((Ref.head l d 0).data.toList++(Ref.pdraw l d 0).data.toList) 0 w:=by
 have hz:(d++restB).size=d.size+4:=ba_sz _ _
 have hE:Ref.beginE l (d++restB) 0=0:=Ref.begin_good h1 h3 hm (by omega)
 obtain ⟨f1,f2,f3,f4,f5⟩:=file_left l d restB hd text.data.toList
 have hok:∀ (k:Snk) t,k.plan=[]→k.ok t=true:=fun k t h=>Snk.ok_nil h t
 have hne:Ref.newE l (d++restB) 0 ⟨⟨#[]⟩,[],0⟩=0:=by
  rw[Ref.newE_eq hE,if_neg (by rw[hok _ _ rfl];simp)]
  unfold Snk.err
  rw[hok _ _ rfl]
  rfl
 have hG:=Ref.new_good hE (k:=⟨⟨#[]⟩,[],0⟩) rfl text.data.toList hne
 obtain ⟨r1,r2,r3⟩:=Ref.new_room (k:=⟨⟨#[]⟩,[],0⟩) hE rfl rfl
 rw[f2,f3,f4] at hG
 rw[f3] at hR
 exact ⟨_,hR,hG,Nat.zero_le _,r1,r2,r3⟩
theorem made_zero {l:List ByteArray} {d:ByteArray} (hd:d.size=16*(l.length+2)) (h1:1≤l.length) (h3:l.length≤3) (hm:∀ m ∈ l,m.size=32):Ref.newE l (d++restB) 0 ⟨⟨#[]⟩,[],0⟩=0∧Ref.beginP l (d++restB) 0=d.size:=by
 have hz:(d++restB).size=d.size+4:=ba_sz _ _
 have hE:Ref.beginE l (d++restB) 0=0:=Ref.begin_good h1 h3 hm (by omega)
 have hok:∀ (k:Snk) t,k.plan=[]→k.ok t=true:=fun k t h=>Snk.ok_nil h t
 have hc:Ref.chkM l=0:=by
  unfold Ref.beginE at hE
  by_cases hc:Ref.chkM l=0
  ·exact hc
  ·rw[if_pos hc] at hE;exact absurd hE hc
 refine ⟨?_,?_⟩
 ·rw[Ref.newE_eq hE,if_neg (by rw[hok _ _ rfl];simp)]
  unfold Snk.err
  rw[hok _ _ rfl]
  rfl
 ·unfold Ref.beginP canDraw
  rw[if_neg (by rw[hc];simp),hz]
  omega
set_option maxRecDepth 100000 in
set_option maxHeartbeats 3200000 in
theorem made_any (text who:ByteArray) (turn c:Int) (w:World) (ht:Tabs w) (hx:text.size≤268435456) (hw:who.size≤9223372036854775807) (t1 : -9223372036854775808≤turn) (t2:turn≤9223372036854775807) (c1 : -9223372036854775808≤c) (c2:c≤9223372036854775807):
  Calls Tryz.prog 7 #[.string text,.string who,.int .i64 turn,.int .i64 c] w (MadeP text w):=by
 have HMS:=hide (masters_any who w hw)
 have HDR:=hide (fun n w hn=>draws_any c n w c1 c2 hn)
 have HX:=hide hx
 have HT:=hide ht
 have HTR:=hide (And.intro t1 t2)
 clear ht hx hw t1 t2 c1 c2
 go_enter Tryz.func7,Tryz.ntmps7
 go_wp2_with fail
 refine HMS.out.mono ?_
 rintro e w1 ⟨v,rfl,l,hr,_,h1,h3,hm,hb1⟩
 have F1:=hide (show FlS w v l w1 from ⟨HT.out.two,HT.out.after hb1,Row.strs hr,hb1⟩)
 have HM:=hide (And.intro h1 (And.intro h3 hm))
 obtain ⟨ao,cap,rfl,hd1,hd2⟩:=Row.anyN hr
 clear hr hb1 hm HMS HT hd1 hd2
 obtain ⟨n,hn⟩:∃ n:Nat,l.length=n:=⟨_,rfl⟩
 rw[hn] at F1 h1 h3
 rw[hn]
 have HNN:=hide hn
 clear hn
 obtain ⟨n2,hn2⟩:∃ x:Nat,n+2=x:=⟨_,rfl⟩
 have tn:(n:Int)+2=(n2:Int):=by omega
 have HD1:=hide (HDR.out n2 w1 (by omega))
 have HN2:=hide hn2
 have n2b:n2≤5:=by omega
 clear HDR hn2
 go_wp2_with fail
 refine HD1.out.mono ?_
 rintro e w2 ⟨d,hds,rfl,hb2⟩
 have F2:=hide (F1.out.after hb2)
 have HDS:=hide (show d.size=16*(l.length+2) by rw[hds,←HN2.out,HNN.out])
 have hdz:d.size≤80:=by omega
 have u1:¬ (9223372036854775807<d.size+4):=by omega
 clear hb2 F1 HD1 hds tn
 obtain ⟨dr,hdr⟩:∃ x,d++(⟨#[114,101,115,116]⟩:ByteArray)=x:=⟨_,rfl⟩
 have hdrz:dr.size=d.size+4:=by rw[←hdr];exact ba_sz _ _
 have HDR:=hide (show d++restB=dr from hdr)
 go_wp2_with fail
 refine (springOf_any dr _).mono ?_
 rintro e w3 ⟨rfl,hB3,hb3⟩
 have F3:=hide (F2.out.after hb3)
 have HB3:=hide (show Blk w3 w2.heap.size 94 (springCells dr 0) from hB3)
 have A3:=hide (F2.out.apart (Nat.le_refl _))
 have hge2:=F2.out.be.size
 have hl3:=hB3.lt
 clear hb3 hB3 hdr
 go_wp2_with fail
 refine (sinkOf_nil _).mono ?_
 rintro e w4 ⟨sk,rfl,hsk,hG4,hS4,hb4⟩
 have F4:=hide (F3.out.after hb4)
 have HB4:=hide (HB3.out.below hb4 HB3.out.lt)
 have hl4:=hS4.lt
 have HNW:=hide (newWriter_any _ l w2.heap.size dr 0 sk w3.heap.size ⟨⟨#[]⟩,[],0⟩ w4 F4.out.tabs F4.out.strs A3.out (by rw[HNN.out];omega) HB4.out (Nat.le_trans F2.out.two F2.out.be.size) (Nat.zero_le _) (by omega) hS4 hG4 (by omega) (by omega) (by omega) (by show 0+3000<_;decide) (by show 0+10<_;decide))
 have hG4':=hG4
 have hMZ:=made_zero HDS.out HM.out.1 HM.out.2.1 HM.out.2.2
 rw[HDR.out] at hMZ
 have HG4:=hide hG4
 clear hb4 hS4 hG4 hG4' HB3 HB4 F3
 go_wp2_with fail
 refine HNW.out.mono ?_
 rintro e w5 ⟨pv,rfl,_,hn2,hS5,hB5,hC5⟩
 obtain ⟨wb,hwb,rfl,hWb⟩:=hn2 hMZ.1
 rw[hMZ.1]
 rw[hMZ.2] at hB5
 have hR5:WRep wb sk w3.heap.size (Ref.pkey l dr 0) ⟨0,[],Ref.newK l dr 0 ⟨⟨#[]⟩,[],0⟩⟩ w5:=by
  refine ⟨⟨nought 16,rfl,rfl,hWb⟩,Nat.zero_le _,hS5,?_⟩
  have h:=hC5.blk HG4.out (fun e=>by omega)
  have hE:Ref.beginE l dr 0=0:=Ref.begin_good HM.out.1 HM.out.2.1 HM.out.2.2 (by have:=HDS.out;omega)
  rw[(Ref.new_room (k:=⟨⟨#[]⟩,[],0⟩) hE rfl rfl).2.2]
  exact h
 rw[←HDR.out] at hR5
 have HO5:=hide (made_start text HDS.out HM.out.1 HM.out.2.1 HM.out.2.2 hR5)
 have F5:=hide (F4.out.chg hC5 (fun k hk=>by omega) (fun g o n c e hl=>by
  have:=A3.out g o n c e hl
  have:=F2.out.strs.blt g o n c e hl
  omega))
 have HB5:=hide hB5
 have hwl5:=hWb.lt
 clear hn2 hS5 hB5 hC5 hWb hR5 HNW HG4 F4
 have HWR:=hide (written_any wb sk w3.heap.size _ text _ turn w5 HO5.out (Ref.pkey_size _ _ _) HX.out HTR.out.1 HTR.out.2 (by omega) (by omega) (by omega))
 go_wp2_with fail
 refine HWR.out.mono ?_
 rintro e w6 ⟨rfl,⟨k6,hS6,hgot⟩,hC6⟩
 have F6:=hide (F5.out.chg hC6 (fun k hk=>by omega) (fun g o n c e hl=>by
  have:=F2.out.strs.blt g o n c e hl
  omega))
 have hB6:=hC6.blk HB5.out (fun e=>by omega)
 have x0:=hB6.cell (i:=0) rfl
 have x1:=hB6.cell (i:=1) rfl
 have hle:IntKind.i64.wrap ((dr.size:Int)-(d.size:Int))=4:=(IntWalk.i64_in _ (by omega)).trans (by omega)
 have HLF:=hide (springLeft_any w2.heap.size dr (d.size:Nat) w6 x0 x1)
 rw[hle] at HLF
 have hg2:k6.got=fileB l d text:=hgot
 have HGT:=hide (fun m=>sinkGot_any sk k6.got (w6.drewN m) ((Blk.drewN hS6 m).cell (i:=0) rfl))
 rw[hg2] at HGT
 have hsk6:w2.heap.size<w6.heap.size:=hB6.lt
 clear hS6 hgot hC6 HWR HO5 HB5 hB6 x0 x1 hle hg2 F5
 go_wp2_with fail
 refine HLF.out.mono ?_
 rintro e w7 ⟨rfl,m7,rfl⟩
 have F7:=hide (F6.out.after (below_drewN (Below.refl _ _) m7))
 have HG7:=hide (HGT.out m7)
 have hw7:w2.heap.size<(w6.drewN m7).heap.size:=hsk6
 generalize w6.drewN m7=w7 at *
 clear HLF HGT F6 hsk6
 have HFF:=hide (file_facts l d text HM.out.1 HM.out.2.1 HDS.out)
 have HKN:=hide (known_any _ l d text (fileB l d text) _ _ _ _ _ _ _ l.length w7 F7.out.tabs F7.out.strs HM.out.1 HM.out.2.1 HM.out.2.2 HDS.out HX.out HFF.out)
 have HEN:=hide (fun b (w':World) hf hb hge hv=>encrypt_any (.slice ao n cap) l b d 0 text w' (FlS.tabs (w:=w) hf) (FlS.strs hf) hv (by rw[HNN.out];omega) hb (Nat.le_trans F2.out.two hge) (Nat.zero_le _) (by omega) (by have:=HX.out;omega))
 have hE:Ref.beginE l d 0=0:=Ref.begin_good HM.out.1 HM.out.2.1 HM.out.2.2 (by have:=HDS.out;omega)
 have HE:=hide hE
 have HFB:=hide (show fileB l d text=⟨(Ref.file l d 0 text.data.toList).toArray⟩ from rfl)
 generalize fileB l d text=BF at *
 clear hE
 go_wp2_with fail
 refine HG7.out.mono ?_
 rintro e w8 ⟨rfl,rfl⟩
 clear HG7
 go_wp2_with fail
 refine HKN.out.mono ?_
 rintro e w9 ⟨vb,rfl,hR9,hb9⟩
 have F9:=hide (F7.out.after hb9)
 have R9:=hide hR9
 have hsz9:=hb9.size
 have hge7:=F7.out.be.size
 clear HKN hR9 hb9
 go_wp2_with fail
 refine (springOf_any d _).mono ?_
 rintro e w10 ⟨rfl,hB10,hb10⟩
 have F10:=hide (F9.out.after hb10)
 have R10:=hide (FileR.mk (R9.out.blk.below hb10 R9.out.blk.lt) (R9.out.ms.after hb10) (R9.out.bx.after hb10))
 have A10:=hide (F9.out.apart (Nat.le_refl _))
 have A11:=hide (fun g o n c (e:vb = .slice (some ⟨g,o,none⟩) n c) hl=>Nat.ne_of_lt (R9.out.bx.blt g o n c e hl))
 have hf9:=R9.out.blk.lt
 have HEC:=hide (HEN.out w9.heap.size w10 F10.out hB10 (by omega) A10.out)
 clear hb10 hB10 F9 R9 HEN
 go_wp2_with fail
 refine HEC.out.mono ?_
 rintro e w11 ⟨rfl,_,hG11⟩
 rw[HE.out,if_pos rfl,←HFB.out]
 have F11:=hide (F10.out.grown hG11 (by omega) A10.out)
 have R11:=hide (FileR.mk (R10.out.blk.grown hG11 (fun e=>by injection e with e;omega)) (R10.out.ms.grown hG11 A10.out) (R10.out.bx.grown hG11 A11.out))
 clear hG11 HEC F10 R10 A10 A11
 go_wp2
 refine bodyPost_ret (results_tmp2 rfl _ _ _) rfl ?_
 exact ⟨w8.heap.size,.slice ao n cap,vb,l,d,rfl,hge7,HM.out.1,HM.out.2.1,HM.out.2.2,HDS.out,by rw[HFB.out] at R11;exact R11.out,F11.out.be,F11.out.tabs⟩
theorem FileF.atRd {l:List ByteArray} {d text b H PD KY FK:ByteArray} {ss bs:List ByteArray} {mac:ByteArray} {n:Nat} (F:FileF l d text b H PD KY FK ss bs mac n) {x off:Int} {r:List UInt8 × Int} (h:AtRd KY.data.toList (Ref.encF KY.data.toList text.data.toList) text.size x off r):
  ((x<0∨off<0)→r=([],2))∧(0≤x→0≤off→((text.size:Int)<off→r=([],13))∧(off+x≤(text.size:Int)→r=((text.data.toList.drop off.toNat).take x.toNat,0))∧(off≤(text.size:Int)→(text.size:Int)<off+x→r=(text.data.toList.drop off.toNat,13))):=by
 cases h using AtRd.elim with
 | arg h=>exact ⟨fun _=>rfl,fun h1 h2=>by omega⟩
 | over h1 h2 h3=>exact ⟨fun h=>by omega,fun _ _=>⟨fun _=>rfl,fun h=>by omega,fun h=>by omega⟩⟩
 | all _ h1 h2 h3 hs=>
  have e:=F.spn (by omega) hs
  rw[List.nil_append,Nat.add_sub_cancel_left] at e
  exact ⟨fun h=>by omega,fun _ _=>⟨fun h=>by omega,fun _=>e,fun h=>by omega⟩⟩
 | some r h1 h2 h3 h4 hs=>
  have e:=F.spn (Nat.le_refl _) hs
  rw[List.nil_append,List.take_of_length_le (by rw[List.length_drop,ba_len];exact Nat.le_refl _)] at e
  refine ⟨fun h=>by omega,fun _ _=>⟨fun h=>by omega,fun h=>by omega,fun _ _=>?_⟩⟩
  rw[e]
  rfl
set_option maxRecDepth 100000 in
set_option maxHeartbeats 1600000 in
theorem kat_any (fb:Nat) (v vb:Value) (l:List ByteArray) (d text b H PD KY FK:ByteArray) (ss bs:List ByteArray) (mac:ByteArray) (n:Nat) (x off:Int) (w:World) (ht:Tabs w) (h1:1≤n) (h3:n≤3) (hm:∀ m ∈ l,m.size=32) (hx:text.size≤268435456) (F:FileF l d text b H PD KY FK ss bs mac n) (R:FileR fb v vb l d text b H KY w) (x1 : -9223372036854775808≤x) (x2:x≤9223372036854775807) (o1 : -9223372036854775808≤off) (o2:off≤9223372036854775807):
  Calls Tryz.prog 12 #[.pointer (some ⟨fb,0,none⟩),.int .i64 x,.int .i64 off] w fun e w'=>e = .returned (.bool true)∧Below w.heap.size w w':=by
 have hl0:0<l.length:=by rw[F.hn];omega
 have hEl:=Ref.encF_len (key:=KY.data.toList) (by rw[ba_len,F.ky]) text.data.toList
 have hbz:=F.bz
 have hHs:=F.hs
 have hfn:=Ref.full_nums text.data.toList.length
 have htl:text.data.toList.length=text.size:=ba_len _
 have hbs:b.size≤1099511627776:=by omega
 have hm0:(l.getD 0 ⟨#[]⟩).size=32:=by
  rw[List.getD_eq_getElem?_getD,List.getElem?_eq_getElem hl0]
  exact hm _ (List.getElem_mem hl0)
 have HNA:=hide (fun (w':World) (t:Tabs w')=>newAt_any (l.getD 0 ⟨#[]⟩) b w' t hbs)
 have HAN:=hide (fun k key ch size h=>F.atN h1 h3 (k:=k) (key:=key) (ch:=ch) (size:=size) (by unfold Hd.at_;rw[ba_len,hm0]) h)
 have HFR:=hide (fun r h=>F.atRd (x:=x) (off:=off) (r:=r) h)
 have HKY:=hide F.ky
 have c0:=R.blk.cell (i:=0) rfl
 have c3:=R.blk.cell (i:=3) rfl
 have hfl:=R.blk.lt
 obtain ⟨g,o,c,hv,hgl,e1⟩:=R.ms.at 0 hl0
 subst hv
 rw[Nat.add_zero] at e1
 rw[F.hn] at c0
 have HT:=hide ht
 have HRB:=hide R.blk
 have jn:(0:Int)<(n:Int):=by omega
 have jn2:0<n:=by omega
 have jn3:¬ n=0:=by omega
 have jn4:¬ n≤0:=by omega
 unfold Hd.at_ at HAN
 generalize l.getD 0 ⟨#[]⟩=m0 at *
 obtain ⟨N,hN⟩:∃ N:Nat,text.size=N:=⟨_,rfl⟩
 clear hm hl0 hEl hbz hHs hfn htl F R ht hm0
 have hNA:=HNA.out w.drew (HT.out.below (B:=2) ⟨rfl,rfl,rfl,Nat.le_refl _,fun _ _=>rfl⟩ (Nat.le_refl _))
 have HNA1:=hide (show Calls Tryz.prog 38 #[.string m0,.string b] w.drew fun e w'=>∃ ab,e = .returned (.tuple #[.pointer (some ⟨ab,0,none⟩),.int .i64 0])∧(∃ ch,ch.data.toList=Ref.encF KY.data.toList text.data.toList∧Blk w' ab 129 (atCells KY ch text.size))∧Below w.heap.size w.drew w' by
  refine hNA.mono ?_
  rintro e w' ⟨k,key,ch,size,pv,hA,rfl,_,hk2,hb⟩
  obtain ⟨rfl,rfl,hch,rfl⟩:=HAN.out k key ch size hA
  obtain ⟨ab,_,rfl,hB,_,_⟩:=hk2 rfl
  exact ⟨ab,rfl,⟨ch,hch,by rw[show (⟨KY.data.toList.toArray⟩:ByteArray)=KY from ba_ext rfl] at hB;exact hB⟩,hb⟩)
 clear hNA HNA HAN
 go_enter Tryz.func12,Tryz.ntmps12
 go_wp2
 go_region_held3 (fun w'=>w'.cell? ⟨fb,0,none⟩=some (.slice (some ⟨g,o,none⟩) n c)∧w'.cell? ⟨fb,3,none⟩=some (.string b)∧w'.cell? ⟨g,o,none⟩=some (.string m0)) (refine ⟨?_,?_,?_⟩ <;> first | assumption | (exact (hb2.cell hfl).trans (by assumption)) | (exact (hb2.cell hgl).trans (by assumption))) ((go_at_call 38;refine HNA1.out.mono ?_;rintro e w2 ⟨ab,rfl,hch,hb2⟩))
 rename_i hH
 clear hH
 have hbd:Below w.heap.size w w2:=(show Below w.heap.size w w.drew from ⟨rfl,rfl,rfl,Nat.le_refl _,fun _ _=>rfl⟩).trans hb2
 obtain ⟨ch,hcl,hB2⟩:=hch
 have B2:=hide hbd
 have HF2:=hide (HRB.out.below hbd hfl)
 have HSZ:=hide (atSize_any ab KY ch text.size w2 hB2)
 have HRD:=hide (atRead_any ab KY ch text.size x off w2 hB2 HKY.out (by omega) x1 x2 o1 o2)
 rw[hcl] at HRD
 clear hb2 hbd HNA1 HRB c0 c3 hcl hB2
 go_wp2_with fail
 refine HSZ.out.mono ?_
 rintro e w3 ⟨rfl,rfl⟩
 clear HSZ
 go_wp2_with fail
 refine HRD.out.mono ?_
 rintro e w4 ⟨r,hr,rfl,hb4⟩
 have B4:=hide (B2.out.trans (hb4.mono B2.out.size))
 have HF4:=hide (HF2.out.below hb4 HF2.out.lt)
 have c1:=HF4.out.cell (i:=1) rfl
 obtain ⟨q1,q2⟩:=HFR.out r hr
 clear hb4 hr HRD HF2 B2 HFR
 by_cases hxn:x<0
 ·obtain rfl:=q1 (.inl hxn)
  rw[show ansV (([],2):List UInt8 × Int) = .tuple #[.string ⟨#[]⟩,.int .i64 2] from rfl]
  clear q1 q2
  go_wp2
  go_ret
  exact ⟨rfl,B4.out⟩
 ·have zx:decide (x<0)=false:=decide_eq_false hxn
  by_cases hon:off<0
  ·obtain rfl:=q1 (.inr hon)
   rw[show ansV (([],2):List UInt8 × Int) = .tuple #[.string ⟨#[]⟩,.int .i64 2] from rfl]
   clear q1 q2
   go_wp2
   go_ret
   exact ⟨rfl,B4.out⟩
  ·have zo:decide (off<0)=false:=decide_eq_false hon
   obtain ⟨X,rfl⟩:∃ X:Nat,x=(X:Int):=⟨x.toNat,by omega⟩
   obtain ⟨O,rfl⟩:∃ O:Nat,off=(O:Int):=⟨off.toNat,by omega⟩
   obtain ⟨q2,q3,q4⟩:=q2 (by omega) (by omega)
   rw[hN] at q2 q3 q4
   rw[Int.toNat_natCast,Int.toNat_natCast] at q3
   rw[Int.toNat_natCast] at q4
   by_cases h5:N<O
   ·have j5:(N:Int)<(O:Int):=by omega
    have j6:¬ (O:Int)<(N:Int):=by omega
    have z6:decide ((O:Int)<(N:Int))=false:=decide_eq_false j6
    obtain rfl:=q2 j5
    rw[show ansV (([],13):List UInt8 × Int) = .tuple #[.string ⟨#[]⟩,.int .i64 13] from rfl]
    clear q1 q2 q3 q4
    by_cases hX:X=0
    ·subst hX
     go_wp2
     go_ret
     exact ⟨rfl,B4.out⟩
    ·have jX:¬ (X:Int)<0:=by omega
     go_wp2
     go_ret
     exact ⟨rfl,B4.out⟩
   ·have j5:¬ (N:Int)<(O:Int):=by omega
    have z5:decide ((N:Int)<(O:Int))=false:=decide_eq_false j5
    have z5n:decide (N<O)=false:=decide_eq_false (by omega)
    obtain ⟨L,hL⟩:∃ L:Nat,L=N-O:=⟨_,rfl⟩
    have tL:(N:Int)-(O:Int)=(L:Int):=by omega
    have hxs:(text.extract O N).size=L:=by rw[ByteArray.size_extract];omega
    have hdl:(text.extract O N).data.toList=text.data.toList.drop O:=by rw[←hN];exact ext_drop text O
    by_cases h6:X≤L
    ·have j6:¬ (L:Int)<(X:Int):=by omega
     have z7:decide ((L:Int)<(X:Int))=false:=decide_eq_false j6
     have z8:decide (L<X)=false:=decide_eq_false (by omega)
     obtain rfl:=q3 (by omega)
     by_cases h7:O<N
     ·have j7:(O:Int)<(N:Int):=by omega
      have j8:(O:Int)≤(N:Int):=by omega
      by_cases h8:X<L
      ·have j9:(X:Int)<(L:Int):=by omega
       have he:(⟨((text.data.toList.drop O).take X).toArray⟩:ByteArray)=(text.extract O N).extract 0 X:=ba_ext (by rw[ext_take,hdl])
       have hav:ansV ((text.data.toList.drop O).take X,0) = .tuple #[.string ((text.extract O N).extract 0 X),.int .i64 0]:=by unfold ansV;rw[he]
       rw[hav]
       clear q1 q2 q3 q4 he hav hdl hL h6 h7 h8 hxn hon
       generalize hTX:text.extract O N=TX at *
       go_wp2
       go_ret
       exact ⟨rfl,B4.out⟩
      ·have j9:¬ (X:Int)<(L:Int):=by omega
       have he:(⟨((text.data.toList.drop O).take X).toArray⟩:ByteArray)=text.extract O N:=ba_ext (by rw[hdl];exact List.take_of_length_le (by rw[List.length_drop,ba_len];omega))
       have hav:ansV ((text.data.toList.drop O).take X,0) = .tuple #[.string (text.extract O N),.int .i64 0]:=by unfold ansV;rw[he]
       rw[hav]
       clear q1 q2 q3 q4 he hav hdl hL h6 h7 h8 hxn hon
       generalize hTX:text.extract O N=TX at *
       go_wp2
       go_ret
       exact ⟨rfl,B4.out⟩
     ·have j7:¬ (O:Int)<(N:Int):=by omega
      have hX0:X=0:=by omega
      subst hX0
      have hav:ansV ((text.data.toList.drop O).take 0,0) = .tuple #[.string ⟨#[]⟩,.int .i64 0]:=by unfold ansV;rw[List.take_zero]
      rw[hav]
      clear q1 q2 q3 q4 hav hdl hL h6 h7 hxn hon hxs
      go_wp2
      go_ret
      exact ⟨rfl,B4.out⟩
    ·have j6:(L:Int)<(X:Int):=by omega
     have z8:decide (L<X)=true:=decide_eq_true (by omega)
     have j9:¬ (X:Int)<(L:Int):=by omega
     obtain rfl:=q4 (by omega) (by omega)
     by_cases h7:O<N
     ·have j7:(O:Int)<(N:Int):=by omega
      have j8:(O:Int)≤(N:Int):=by omega
      have he:(⟨(text.data.toList.drop O).toArray⟩:ByteArray)=text.extract O N:=ba_ext (by rw[hdl])
      have hav:ansV (text.data.toList.drop O,13) = .tuple #[.string (text.extract O N),.int .i64 13]:=by unfold ansV;rw[he]
      rw[hav]
      clear q1 q2 q3 q4 he hav hdl hL h6 h7 hxn hon
      generalize hTX:text.extract O N=TX at *
      go_wp2
      go_ret
      exact ⟨rfl,B4.out⟩
     ·have j7:¬ (O:Int)<(N:Int):=by omega
      have jX:¬ (X:Int)<0:=by omega
      have hav:ansV (text.data.toList.drop O,13) = .tuple #[.string ⟨#[]⟩,.int .i64 13]:=by unfold ansV;rw[List.drop_eq_nil_of_le (by rw[ba_len];omega)]
      rw[hav]
      clear q1 q2 q3 q4 hav hdl hL h6 h7 hxn hon hxs
      go_wp2
      go_ret
      exact ⟨rfl,B4.out⟩
end Go.Proofs.YtoifalcpfnacnaaGreatDoor
namespace Go.Proofs.YtoifalcpfnacnaaGreatDoor
open Go.ChangeShapes Go.WideShapes Go.ChangeAt Go.RowKit Go.Deep
theorem own:ownKnob Tryz.prog.godebug=none:=by kernel_rfl
theorem gH : Tryz.prog.globalNamed "strongbox/sha2.firstWords" = some 0 := by kernel_rfl
theorem gK : Tryz.prog.globalNamed "strongbox/sha2.roundWords" = some 1 := by kernel_rfl
theorem gHt:(Tryz.prog.globals[0]?).map (·.type)=some 169:=by kernel_rfl
theorem gKt:(Tryz.prog.globals[1]?).map (·.type)=some 187:=by kernel_rfl
theorem c8:Tryz.prog.cellsOf 169=8:=by kernel_rfl
theorem c64:Tryz.prog.cellsOf 187=64:=by kernel_rfl
theorem c32:Tryz.prog.cellsOf 150=1:=by kernel_rfl
theorem tabs2 {W : World} (h' : laidMet Tryz.prog [("strongbox/sha2.firstWords", Lib.tabData .u32 (Sha.H0.list.map fun (n : Nat) => (n : Int))), ("strongbox/sha2.roundWords", Lib.tabData .u32 (Sha.Kt.map fun (n : Nat) => (n : Int)))] W) : HTab W ∧ KTab W := by
 have t1:=Lib.tabIs_of_head gH gHt Tryz.underlying169 Tryz.underlying150 c32 c8 h'
 have t2:=Lib.tabIs_of_head gK gKt Tryz.underlying187 Tryz.underlying150 c32 c64 h'.tail
 refine ⟨fun i hi=>?_,fun i hi=>?_⟩
 ·have hl:i<Sha.H0.list.length:=hi
  rw[t1.cell gH i (by simpa using hl)]
  simp[Sha.wAt,List.getD,hl]
 ·have hl:i<Sha.Kt.length:=hi
  rw[t2.cell gK i (by simpa using hl)]
  simp[Sha.wAt,List.getD,hl]
def laidIn (ns:List Nat):Obj→Obj
 | .cells _ t frozen=>.cells (ns.map fun (n:Nat)=>Value.int .u32 (n:Int)).toArray t frozen
 | o=>o
def laidWorld (P:Program) (os:Os):World:=
 { World.holding P os ⟨#[],#[],[]⟩ with heap:=((World.holding P os ⟨#[],#[],[]⟩).heap.modify 0 (laidIn Sha.H0.list)).modify 1 (laidIn Sha.Kt) }
theorem open_text0 {H:Type} {enc:TypeId × Value→H} {P:Program} {t:TypeId} (ht:P.underlying t=some .string) {W:World} {r:Reach} {b0 base:Nat} {sp:Nat→Bool} {held:Bool} {v:Value} {d:DataW H} {ps:List MemPlace} (hval:Value.okWide P W r b0 t v) (hd:DataW.Trod enc P W base sp held t v d ps):
  ∃ s:ByteArray,v = .string s∧d = .lit (.string s.data.toList)∧ps=[]∧s.size≤maxLen:=by
 obtain ⟨s,rfl⟩:=okWide_string ht hval
 obtain ⟨fuel,hf⟩:=hd
 obtain ⟨s',h,hx,hs⟩:=DataW.trod_string ht hf
 simp[Value.cells] at h
 subst h
 simp only[Prod.mk.injEq] at hx
 exact ⟨s,rfl,hx.1,hx.2,hs⟩
theorem shut_text0 {H:Type} {enc:TypeId × Value→H} {P:Program} {t:TypeId} (ht:P.underlying t=some .string) {W:World} {base:Nat} {sp:Nat→Bool} {held:Bool} {s:ByteArray} (hs:s.size≤maxLen):DataW.Trod enc P W base sp held t (.string s) (.lit (.string s.data.toList)) []:=
 ⟨1,by simp[DataW.trod,Value.cells,ht,hs]⟩
set_option maxRecDepth 100000 in
theorem open_text {H:Type} {enc:TypeId × Value→H} {W:World} {r:Reach} {b0 base:Nat} {sp:Nat→Bool} {held:Bool} {v:Value} {d:DataW H} {ps:List MemPlace} (hval:Value.okWide Tryz.prog W r b0 9 v) (hd:DataW.Trod enc Tryz.prog W base sp held 9 v d ps):
  ∃ s:ByteArray,v = .string s∧d = .lit (.string s.data.toList)∧ps=[]∧s.size≤maxLen:=open_text0 Tryz.underlying9 hval hd
set_option maxRecDepth 100000 in
theorem shut_text {H:Type} {enc:TypeId × Value→H} {W:World} {base:Nat} {sp:Nat→Bool} {held:Bool} {s:ByteArray} (hs:s.size≤maxLen):DataW.Trod enc Tryz.prog W base sp held 9 (.string s) (.lit (.string s.data.toList)) []:=shut_text0 Tryz.underlying9 hs
theorem open_int0 {H:Type} {enc:TypeId × Value→H} {P:Program} {t:TypeId} (ht:P.underlying t=some (.int .i64)) {W:World} {r:Reach} {b0 base:Nat} {sp:Nat→Bool} {held:Bool} {v:Value} {d:DataW H} {ps:List MemPlace} (hval:Value.okWide P W r b0 t v) (hd:DataW.Trod enc P W base sp held t v d ps):
  ∃ n:Int,v = .int .i64 n∧d = .lit (.int .i64 n)∧ps=[]∧(Lit.int .i64 n).wf=true:=by
 obtain ⟨n,rfl⟩:=okWide_int ht hval
 obtain ⟨fuel,hf⟩:=hd
 obtain ⟨m,h,hx,hs⟩:=DataW.trod_int ht hf
 simp[Value.cells] at h
 subst h
 simp only[Prod.mk.injEq] at hx
 exact ⟨n,rfl,hx.1,hx.2,hs⟩
set_option maxRecDepth 100000 in
theorem open_intA {H:Type} {enc:TypeId × Value→H} {W:World} {r:Reach} {b0 base:Nat} {sp:Nat→Bool} {held:Bool} {v:Value} {d:DataW H} {ps:List MemPlace} (hval:Value.okWide Tryz.prog W r b0 3 v) (hd:DataW.Trod enc Tryz.prog W base sp held 3 v d ps):
  ∃ n:Int,v = .int .i64 n∧d = .lit (.int .i64 n)∧ps=[]∧(Lit.int .i64 n).wf=true:=open_int0 Tryz.underlying3 hval hd
set_option maxRecDepth 100000 in
theorem shut_intA {H:Type} {enc:TypeId × Value→H} {W:World} {base:Nat} {sp:Nat→Bool} {held:Bool} {n:Int} (hn:(Lit.int .i64 n).wf=true):DataW.Trod enc Tryz.prog W base sp held 3 (.int .i64 n) (.lit (.int .i64 n)) []:=
 ⟨1,Go.ChangeShapes.trod_int_mk 0 Tryz.underlying3 hn⟩
theorem wfB {n:Int} (h:(Lit.int .i64 n).wf=true) : -9223372036854775808≤n∧n≤9223372036854775807:=by
 simp only[Lit.wf,Bool.and_eq_true,decide_eq_true_eq] at h
 have h1:IntKind.i64.min = -9223372036854775808:=rfl
 have h2:IntKind.i64.max=9223372036854775807:=rfl
 omega
theorem mk4 {H:Type} {enc:TypeId × Value→H} {P:Program} {w:World} {base:Nat} {sp:Nat→Bool} {held:Bool} {t t' t'' t3:TypeId} {v v' v'' v3:Value} {d d' d'' d3:DataW H} (h:DataW.Trod enc P w base sp held t v d []) (h':DataW.Trod enc P w base sp held t' v' d' []) (h'':DataW.Trod enc P w base sp held t'' v'' d'' []) (h3:DataW.Trod enc P w base sp held t3 v3 d3 []):
  DataW.TrodAll enc P w base sp held [t,t',t'',t3] [v,v',v'',v3] [d,d',d'',d3] []:=⟨[],[],h,trodAll_mk3 h' h'' h3,rfl⟩
theorem trodAll_five {H:Type} {enc:TypeId × Value→H} {P:Program} {w:World} {base:Nat} {spare:Nat→Bool} {held:Bool} {t t1 t2 t3 t4:TypeId} {args:Array Value} {ds:List (DataW H)} {ps:List MemPlace} (h:DataW.TrodAll enc P w base spare held [t,t1,t2,t3,t4] args.toList ds ps):
  ∃ v v1 v2 v3 v4 d d1 d2 d3 d4 p p1 p2 p3 p4,args = #[v,v1,v2,v3,v4]∧ds=[d,d1,d2,d3,d4]∧ps=p++p1++p2++p3++p4∧DataW.Trod enc P w base spare held t v d p∧DataW.Trod enc P w base spare held t1 v1 d1 p1∧DataW.Trod enc P w base spare held t2 v2 d2 p2∧DataW.Trod enc P w base spare held t3 v3 d3 p3∧DataW.Trod enc P w base spare held t4 v4 d4 p4:=by
 obtain ⟨v,vs,d,ds0,p,q,hargs,rfl,rfl,hd,hrest⟩:=trodAll_cons h
 obtain ⟨v1,vs1,d1,ds1,p1,q1,rfl,rfl,rfl,hd1,hrest1⟩:=trodAll_cons hrest
 obtain ⟨v2,vs2,d2,ds2,p2,q2,rfl,rfl,rfl,hd2,hrest2⟩:=trodAll_cons hrest1
 obtain ⟨v3,vs3,d3,ds3,p3,q3,rfl,rfl,rfl,hd3,hrest3⟩:=trodAll_cons hrest2
 obtain ⟨v4,vs4,d4,ds4,p4,q4,rfl,rfl,rfl,hd4,hrest4⟩:=trodAll_cons hrest3
 obtain ⟨rfl,rfl,rfl⟩:=trodAll_nil hrest4
 exact ⟨v,v1,v2,v3,v4,d,d1,d2,d3,d4,p,p1,p2,p3,p4,by cases args;simp_all,rfl,by simp,hd,hd1,hd2,hd3,hd4⟩
theorem mk5 {H:Type} {enc:TypeId × Value→H} {P:Program} {w:World} {base:Nat} {sp:Nat→Bool} {held:Bool} {t t1 t2 t3 t4:TypeId} {v v1 v2 v3 v4:Value} {d d1 d2 d3 d4:DataW H} (h:DataW.Trod enc P w base sp held t v d []) (h1:DataW.Trod enc P w base sp held t1 v1 d1 []) (h2:DataW.Trod enc P w base sp held t2 v2 d2 []) (h3:DataW.Trod enc P w base sp held t3 v3 d3 []) (h4:DataW.Trod enc P w base sp held t4 v4 d4 []):
  DataW.TrodAll enc P w base sp held [t,t1,t2,t3,t4] [v,v1,v2,v3,v4] [d,d1,d2,d3,d4] []:=⟨[],[],h,mk4 h1 h2 h3 h4,rfl⟩
set_option maxRecDepth 100000 in
theorem spotsLaw_any (s t:ByteArray) (a b c:Int) (w:World) (hs:s.size≤maxLen) (ht:t.size≤maxLen) (a1 : -9223372036854775808≤a) (a2:a≤9223372036854775807) (b1 : -9223372036854775808≤b) (b2:b≤9223372036854775807) (c1 : -9223372036854775808≤c) (c2:c≤9223372036854775807) (hT:Tabs w):
  Calls Tryz.prog 4 #[.string s,.string t,.int .i64 a,.int .i64 b,.int .i64 c] w fun e w'=>e = .returned (.bool true)∧Below w.heap.size w w':=by
 unfold maxLen at hs ht
 by_cases h1:268435456<s.size
 ·have z1:(decide ((268435456:Int)<(s.size:Int)))=true:=by simp;omega
  go_enter Tryz.func4,Tryz.ntmps4
  go_wp2
  go_ret
  exact ⟨rfl,Below.refl _ _⟩
 ·have z1:(decide ((268435456:Int)<(s.size:Int)))=false:=by simp;omega
  have HF:=hide (made_any s t a c w hT (by omega) (by omega) a1 a2 c1 c2)
  have HX:=hide (show s.size≤268435456 by omega)
  go_enter Tryz.func4,Tryz.ntmps4
  go_wp2_with fail
  refine HF.out.mono ?_
  rintro e w1 ⟨fb,v,vb,l,d,rfl,_,h1,h3,hm,hd,hR,hb1,ht1⟩
  have HB:=hide hb1
  have HAT:=hide (kat_any fb v vb l d s (fileB l d s) _ _ _ _ _ _ _ l.length a b w1 ht1 h1 h3 hm HX.out (file_facts l d s h1 h3 hd) hR a1 a2 b1 b2)
  clear hb1 HF hR hm hd ht1
  go_wp2_with fail
  refine HAT.out.mono ?_
  rintro e w2 ⟨rfl,hb2⟩
  have HB2:=hide (HB.out.trans (hb2.mono HB.out.size))
  clear HAT hb2
  go_wp2
  go_ret
  exact ⟨rfl,HB2.out⟩
set_option maxRecDepth 100000 in
theorem spots_contract (H:Type) (enc:TypeId × Value→H) (W:World) (base:Nat) (args:Array Value) (ds gs:List (DataW H)) (before:List MemPlace)
  (hval:∀ (j:Nat) t v,Tryz.f4.params[j]? = some t→args[j]? = some v→Value.okWide Tryz.prog W .any base t v)
  (hW:DataW.Whole enc Tryz.prog Tryz.f4.params.toList Rows.spotsSpec.vars false W args.toList ds gs before)
  (hL:laidMetH Tryz.prog Rows.spotsRow.laid W):
  Calls Tryz.prog 4 args W fun e W'=>∃ v,e = .returned v∧Rows.spotsSpec.post enc Tryz.prog Tryz.f4 false true false false W args v W':=by
 have hW':=hW
 obtain ⟨p,q,hA0,hV,rfl,hfz,hnd⟩:=hW
 have hA:DataW.TrodAll enc Tryz.prog W 0 (fun _=>true) true Tryz.f4.params.toList args.toList ds p:=hA0
 rw[Tryz.params4] at hA hval
 obtain ⟨v0,v1,v2,v3,v4,d0,d1,d2,d3,d4,p0,p1,p2,p3,p4,rfl,rfl,rfl,h0,h1,h2,h3,h4⟩:=trodAll_five hA
 obtain ⟨rfl,rfl⟩:=trodVars_none hV
 obtain ⟨s,rfl,rfl,rfl,hs⟩:=open_text (hval 0 9 v0 rfl rfl) h0
 obtain ⟨t,rfl,rfl,rfl,ht⟩:=open_text (hval 1 9 v1 rfl rfl) h1
 obtain ⟨a,rfl,rfl,rfl,hia⟩:=open_intA (hval 2 3 v2 rfl rfl) h2
 obtain ⟨b,rfl,rfl,rfl,hib⟩:=open_intA (hval 3 3 v3 rfl rfl) h3
 obtain ⟨c,rfl,rfl,rfl,hic⟩:=open_intA (hval 4 3 v4 rfl rfl) h4
 clear hA0 hfz hnd
 simp only[List.append_nil] at hW'
 obtain ⟨hh,hk⟩:=tabs2 hL
 have h2:2≤W.heap.size:=World.block_lt_of_cell? W _ (hk 0 (by decide))
 refine (spotsLaw_any s t a b c W hs ht (wfB hia).1 (wfB hia).2 (wfB hib).1 (wfB hib).2 (wfB hic).1 (wfB hic).2 ⟨hk,hh,h2⟩).mono fun e W' ⟨he,hb⟩=>?_
 subst he
 refine ⟨_,rfl,_,_,_,[],[],[],hW',?_,mk5 (shut_text hs) (shut_text ht) (shut_intA hia) (shut_intA hib) (shut_intA hic),rfl,hb.frame _,fun h=>by cases h⟩
 exact trodAll_mk1 (shut_bool Tryz.underlying4 _)
theorem spots_laid_met (os:Os):laidMet Tryz.prog Rows.spotsRow.laid ((laidWorld Tryz.prog os).forCall (fun _ _=>0) ⟨#[],#[.string ⟨#[]⟩,.string ⟨#[]⟩,.int .i64 0,.int .i64 0,.int .i64 0],[]⟩).memory:=
 laidMet_of_run' 8 (by kernel_rfl) (by kernel_rfl)
theorem spots_reads (os:Os) {H:Type} (enc:TypeId × Value→H):∃ places,DataW.whole enc Tryz.prog ((laidWorld Tryz.prog os).forCall (fun _ _=>0) ⟨#[],#[.string ⟨#[]⟩,.string ⟨#[]⟩,.int .i64 0,.int .i64 0,.int .i64 0],[]⟩).memory Tryz.f4.params.toList Rows.spotsSpec.vars false #[Value.string ⟨#[]⟩,Value.string ⟨#[]⟩,Value.int .i64 0,Value.int .i64 0,Value.int .i64 0].toList 8=some ([.lit (.string []),.lit (.string []),.lit (.int .i64 0),.lit (.int .i64 0),.lit (.int .i64 0)],[],places):=
 ⟨[],by kernel_rfl⟩
set_option maxRecDepth 100000 in
theorem spots_lifted (os:Os) (started:os.Started) (H:Type) (enc:TypeId × Value→H) (F:Stop.Interp):
  ReturnsInHanded {} Tryz.checked os 4 .any ((OpenSpec.ofChange Rows.spotsSpec).preRow enc Tryz.prog Tryz.f4 Rows.spotsRow.domain false Rows.spotsRow.laid) (((OpenSpec.ofChange Rows.spotsSpec).at F).post enc Tryz.prog Tryz.f4 false true false false):=by
 obtain ⟨places,hx⟩:=spots_reads os enc
 refine returnsInHanded_of_row (C:=Tryz.checked) (s:=OpenSpec.ofChange Rows.spotsSpec) own started (by kernel_rfl) Tryz.func4
  (witness_row_at (enc:=enc) (C:=Tryz.checked) false (laidWorld Tryz.prog os) #[.string ⟨#[]⟩,.string ⟨#[]⟩,.int .i64 0,.int .i64 0,.int .i64 0] rfl (by kernel_rfl) (by kernel_rfl) (by kernel_rfl)
   (OpenSpec.preRow_of_cond 8 hx (by kernel_rfl) (fun k hk=>by cases hk) (by kernel_rfl) (spots_laid_met os))) ?_
 intro W base args ds gs before hval hW _ _ _ hL _ _
 exact spots_contract H enc W base args ds gs before hval hW hL
theorem spots_j1:Tryz.prog.inPlace 4=Rows.spotsRow.inPlace:=by kernel_rfl
theorem spots_j2:Tryz.prog.unfollowed 4=Rows.spotsRow.unfollowed:=by kernel_rfl
theorem spots_j3:Tryz.prog.recurses 4=Rows.spotsRow.recurses:=by kernel_rfl
theorem spots_j4:Tryz.prog.varsNamed 4=Rows.spotsRow.named:=by kernel_rfl
theorem spots_j:joinedFacts Tryz.prog 4 Tryz.f4 (OpenSpec.ofChange Rows.spotsSpec).bare Rows.spotsRow=true:=by
 unfold joinedFacts
 rw[spots_j1,spots_j2,spots_j3,spots_j4]
 kernel_rfl
theorem spots_said:Rows.SpotsSaid:=
 OpenClaim.holds_of_cond 4 Tryz.f4 rfl rfl rfl rfl rfl rfl rfl ⟨rfl,rfl,rfl,rfl,rfl⟩ rfl rfl rfl rfl rfl (by kernel_rfl) Tryz.func4 spots_j
  (of_decide_eq_true (by kernel_rfl)) (by unfold Func.isWrapper;first | (rw[if_pos (by decide +kernel)];kernel_rfl) | (rw[if_neg (by decide +kernel)];exact ⟨rfl,rfl⟩))
  (fun os started H enc _ F=>by rw[OpenClaim.pre_eq_preRow];exact spots_lifted os started H enc F)
theorem spots_plain (f : FuncId) (fn : Func) (hf : Tryz.pinned.checked.prog.funcNamed "strongbox/strongboxkeep.Spots" = some f) (hfn : Tryz.pinned.checked.prog.funcs[f]? = some fn) :
  false = Tryz.pinned.checked.prog.looks []∧∀ (j:Nat) t,fn.params[j]? = some t→Tryz.pinned.checked.prog.wantsStandIn t=false:=by
 obtain rfl : f = 4 := Option.some.inj ((show Tryz.prog.funcNamed "strongbox/strongboxkeep.Spots" = some 4 by kernel_rfl).symm.trans hf) |>.symm
 obtain rfl:fn = Tryz.f4:=(Option.some.inj (Tryz.func4.symm.trans hfn)).symm
 refine ⟨by kernel_rfl,fun j t ht=>?_⟩
 rw[Tryz.params4] at ht
 have hm:t=9∨t=3:=by simpa using Array.mem_of_getElem? ht
 rcases hm with rfl | rfl
 ·exact (show Tryz.prog.wantsStandIn 9=false by kernel_rfl)
 ·exact (show Tryz.prog.wantsStandIn 3=false by kernel_rfl)
theorem spots_card:Rows.SpotsCardSaid:=
 Claim7.holds_tied_plain_at .later [] _ _ _ _ (spots_said) (fun _ h=>by cases h) (by kernel_rfl) (fun _ h=>by cases h) spots_row_tie rfl ⟨rfl,rfl⟩ (by kernel_rfl) rfl spots_plain (by kernel_rfl)
end Go.Proofs.YtoifalcpfnacnaaGreatDoor
