import Derived.Test.YtmjekklgefdolaaGreatDoorPl15
namespace Go.Proofs.YtmjekklgefdolaaGreatDoor
open Go.RowKit
def NewAtM (m file:ByteArray) (w:World) (e:Ending) (w':World):Prop:=∃ j k key ch size pv,SplO file.data.toList j∧Ref.newAtA m.data.toList file j=(k,key,ch,size)∧e = .returned (.tuple #[pv,.int .i64 k])∧(k≠0→pv = .pointer none)∧(k=0→∃ ab,w.heap.size≤ab∧pv = .pointer (some ⟨ab,0,none⟩)∧Blk w' ab 198 [.string ⟨key.toArray⟩,.string ch,.int .i64 (((ch.size-1)/32:Nat):Int),.int .i64 (size:Nat)]∧0<ch.size∧(Ref.opnI key ch.data.toList ((ch.size-1)/32)).2=0∧size=16*((ch.size-1)/32)+(Ref.opnI key ch.data.toList ((ch.size-1)/32)).1.length∧key.length=32∧ch.size≤file.size)∧Below w.heap.size w w'
theorem nm_nums (n C:Nat) (h:0<C) (hn:n≤(C-1)/32):(n<(C-1)/32↔((n:Int)+1)*32<(C:Int)):=by omega
theorem ulk_facts {m:List UInt8} {top rest:ByteArray} (h:(Ref.ulk m top rest).2.2=0):(Ref.ulk m top rest).1.length=32∧(Ref.ulk m top rest).2.1.size≤rest.size:=by
 unfold Ref.ulk at h ⊢
 by_cases h1:(Ref.opnA m top).2≠0
 ·rw[if_pos h1] at h;exact absurd h h1
 ·rw[if_neg h1] at h ⊢
  by_cases h2:rest.size<16
  ·rw[if_pos h2] at h;exact absurd h (by decide)
  ·rw[if_neg h2];exact ⟨Ref.keyL_len _ _ _,by show (rest.extract 16 rest.size).size≤_;rw[ByteArray.size_extract];omega⟩
set_option maxRecDepth 100000 in
set_option maxHeartbeats 1600000 in
theorem refNewAt_any (m file:ByteArray) (w:World) (hz:file.size≤1099511627776):
  Calls Tryz.prog 79 #[.string m,.string file] w (NewAtM m file w):=by
 by_cases hl:m.size=32
 ·have jl:((m.size:Int)==32)=true:=by rw[beq_iff_eq];omega
  have jl2:((m.size:Int) != 32)=false:=by simp only[bne,jl];rfl
  have hml:m.data.toList.length=32:=by rw[ba_len,hl]
  have HSP:=hide (refSplit_any file w hz)
  have HRU:=hide (fun j (hj:SplO file.data.toList j) w'=>refUnlocked_any m (file.extract 0 j) (file.extract j file.size) w' hl (by rw[ByteArray.size_extract];rcases hj with ⟨k,a,_,_,rfl⟩ | ⟨_,rfl⟩ <;> omega) (by rw[ByteArray.size_extract];omega))
  have HNA:=hide (fun j=>show Ref.newAtA m.data.toList file j=_ by unfold Ref.newAtA;rw[if_neg (fun q=>q hml)])
  generalize hNP:NewAtM m file w=NP
  clear hml hl jl
  go_enter Tryz.func79,Tryz.ntmps79
  go_wp2_with fail
  refine HSP.out.mono ?_
  rintro e w1 ⟨j,hj,rfl,hb1⟩
  have HJ:=hide hj
  have HU1:=hide (HRU.out j hj w1)
  have hna:=HNA.out j
  have huf:=ulk_facts (m:=m.data.toList) (top:=file.extract 0 j) (rest:=file.extract j file.size)
  have hrs:(file.extract j file.size).size≤file.size:=by rw[ByteArray.size_extract];omega
  have B1:=hide hb1
  generalize Ref.ulk m.data.toList (file.extract 0 j) (file.extract j file.size)=uu at *
  generalize file.extract 0 j=ft at *
  generalize file.extract j file.size=fr at *
  obtain ⟨kk,ch,ue⟩:=uu
  simp only at HU1 hna huf
  have HNJ:=hide hna
  clear HSP HRU HNA hj hb1 hna
  go_wp2_with fail
  refine HU1.out.mono ?_
  rintro e w2 ⟨rfl,hb2⟩
  have B2:=hide (B1.out.trans (hb2.mono B1.out.size))
  clear HU1 hb2 B1
  by_cases hue:ue=0
  ·subst hue
   obtain ⟨hkl,hcs⟩:=huf rfl
   have HKL:=hide hkl
   obtain ⟨C,hC⟩:∃ C:Nat,ch.size=C:=⟨_,rfl⟩
   by_cases hC0:C=0
   ·subst hC0
    obtain rfl:ch=⟨#[]⟩:=ba_ext (List.eq_nil_of_length_eq_zero (by rw[ba_len,hC]))
    have HR:=hide (show Ref.newAtA m.data.toList file j=(10,[],⟨#[]⟩,0) by rw[HNJ.out,if_neg (fun q=>q rfl),if_pos (show (⟨#[]⟩:ByteArray).size=0 from rfl)])
    clear HNJ huf hkl hcs hC
    go_wp2
    rw[←hNP]
    exact ⟨j,10,[],⟨#[]⟩,0,_,HJ.out,HR.out,rfl,fun _=>rfl,fun h=>absurd h (by decide),B2.out⟩
   ·have hCp:0<C:=by omega
    obtain ⟨n,hn⟩:∃ n:Nat,n=(C-1)/32:=⟨_,rfl⟩
    have hCb:C≤1099511627776:=by omega
    have zc:(ch.toList==[])=false:=str_neL (fun e=>hC0 (by rw[←hC,←ba_len,e];rfl))
    have HLO:=hide (fun i (hi:i≤n)=>hn ▸ nm_nums i C hCp (hn ▸ hi))
    have HHN:=hide hn
    have hnb:n≤1099511627776:=by omega
    have hkz:(⟨kk.toArray⟩:ByteArray).size=32:=by rw[two_size,hkl]
    obtain ⟨F,hF⟩:∃ F:Nat,n*32=F:=⟨_,rfl⟩
    have tF:(n:Int)*32=(F:Int):=by omega
    have jF:(F:Int)≤(C:Int):=by omega
    have hFb:F≤1099511627776:=by omega
    have hOP:=fun w'=>refOpened_any ⟨kk.toArray⟩ n true (ch.extract F C) w' hkz (by omega) (by rw[ByteArray.size_extract];omega)
    have hcl:ch.data.toList.length=C:=by rw[ba_len,hC]
    have hL:Ref.opnI kk ch.data.toList n=Ref.opnC kk n true ((ch.extract F C).data.toList):=by
     rw[sub_list,List.take_of_length_le (by rw[List.length_drop];omega),show F=32*n by omega]
     unfold Ref.opnI Ref.boxI
     rw[decide_eq_true (by omega),List.take_of_length_le (by rw[List.length_drop];omega)]
    rw[two_toList,←hL] at hOP
    unfold ansV at hOP
    have HOP:=hide hOP
    have HR:=hide (show Ref.newAtA m.data.toList file j=if (Ref.opnI kk ch.data.toList n).2≠0 then ((Ref.opnI kk ch.data.toList n).2,[],⟨#[]⟩,0) else (0,kk,ch,16*n+(Ref.opnI kk ch.data.toList n).1.length) by rw[HNJ.out,if_neg (fun q=>q rfl),if_neg (by rw[hC];exact hC0),hC,←hn])
    have hol:=opnI_len kk ch.data.toList n
    have HFI:=hide (fun (a:(Ref.opnI kk ch.data.toList n).2=0)=>And.intro (show 0<ch.size by omega) (show (Ref.opnI kk ch.data.toList ((ch.size-1)/32)).2=0∧16*n+(Ref.opnI kk ch.data.toList n).1.length=16*((ch.size-1)/32)+(Ref.opnI kk ch.data.toList ((ch.size-1)/32)).1.length by rw[hC,←hn];exact ⟨a,rfl⟩))
    have HNN:=hide (show (ch.size-1)/32=n by rw[hC,←hn])
    have HCS:=hide (show ch.size≤file.size by omega)
    generalize hoo:Ref.opnI kk ch.data.toList n=oo at *
    obtain ⟨ot,oe⟩:=oo
    simp only at HOP HR hol HFI
    have HOO:=hide hoo
    generalize hKB:(⟨kk.toArray⟩:ByteArray)=kb at *
    have HKB:=hide hKB
    clear hOP hL hcl hkl hcs huf HNJ hn hF hoo hKB hC0 hkz hCp
    go_wp2
    go_loopw [11] (fun v wr=>∃ i:Nat,i≤n∧v = .int .i64 (i:Nat)∧wr=w2) (fun v _=>n-(intOf v).toNat)
    case atStart=>exact ⟨0,Nat.zero_le _,rfl,rfl⟩
    case round=>
     obtain ⟨i,hi,rfl,rfl⟩:=hrel
     have hlo:=HLO.out i hi
     have hib:i≤1099511627776:=by omega
     by_cases hlt:i<n
     ·have j1:=hlo.1 hlt
      have HLT:=hide hlt
      clear hlo hlt hi
      go_wp2
      go_roundw
      case rel=>exact ⟨i+1,HLT.out,by go_num,by first | rfl | trivial⟩
      case measure=>have:=HLT.out;simp[intOf];omega
     ·have j1:¬ ((i:Int)+1)*32<(C:Int):=fun q=>hlt (hlo.2 q)
      obtain rfl:i=n:=by omega
      clear hlo hlt hi HLO
      go_wp2_with fail
      refine (HOP.out _).mono ?_
      rintro e w3 ⟨rfl,hb3⟩
      have B3:=hide (B2.out.trans (hb3.mono B2.out.size))
      have hsz3:=B3.out.size
      clear HOP hb3 B2
      by_cases hoe:oe=0
      ·subst hoe
       have hotz:(⟨ot.toArray⟩:ByteArray).size=ot.length:=two_size _
       generalize (⟨ot.toArray⟩:ByteArray)=bt at *
       obtain ⟨P,hP⟩:∃ P:Nat,i*16=P:=⟨_,rfl⟩
       have tP:(i:Int)*16=(P:Int):=by omega
       obtain ⟨S,hS⟩:∃ S:Nat,P+bt.size=S:=⟨_,rfl⟩
       have tS:(P:Int)+(bt.size:Int)=(S:Int):=by omega
       have hSb:S≤2199023255552:=by omega
       have hPb:P≤2199023255552:=by omega
       have HSS:=hide (show 16*i+ot.length=S by omega)
       have hbz:bt.size≤32:=by omega
       have HR0:=hide (show Ref.newAtA m.data.toList file j=(0,kk,ch,S) by rw[HR.out,if_neg (fun q=>q rfl),HSS.out])
       clear HR hP hS hotz hol
       go_wp2
       rw[←hNP]
       obtain ⟨f1,f2,f3⟩:=HFI.out (by first | rfl | trivial)
       rw[HSS.out] at f3
       refine ⟨j,0,kk,ch,S,_,HJ.out,HR0.out,rfl,fun h=>absurd rfl h,fun _=>⟨w3.heap.size,hsz3,rfl,?_,f1,f2,f3,HKL.out,HCS.out⟩,B3.out.alloc hsz3 _⟩
       rw[HNN.out,HKB.out]
       exact Blk.new rfl rfl
      ·have z1:(oe != 0)=true:=by rw[bne_iff_ne];exact hoe
       have HR0:=hide (show Ref.newAtA m.data.toList file j=(oe,[],⟨#[]⟩,0) by rw[HR.out,if_pos hoe])
       have HH:=hide hoe
       generalize (⟨ot.toArray⟩:ByteArray)=bt at *
       clear HR hoe hol
       go_wp2
       rw[←hNP]
       exact ⟨j,oe,[],⟨#[]⟩,0,_,HJ.out,HR0.out,rfl,fun _=>rfl,fun h=>absurd h HH.out,B3.out⟩
  ·have z1:(ue != 0)=true:=by rw[bne_iff_ne];exact hue
   have HR:=hide (show Ref.newAtA m.data.toList file j=(ue,[],⟨#[]⟩,0) by rw[HNJ.out,if_pos hue])
   have HH:=hide hue
   generalize (⟨kk.toArray⟩:ByteArray)=kb at *
   clear HNJ hue huf
   go_wp2
   rw[←hNP]
   exact ⟨j,ue,[],⟨#[]⟩,0,_,HJ.out,HR.out,rfl,fun _=>rfl,fun h=>absurd h HH.out,B2.out⟩
 ·have jl:((m.size:Int)==32)=false:=beq_eq_false_iff_ne.2 (by omega)
  have jl2:((m.size:Int) != 32)=true:=by simp only[bne,jl];rfl
  obtain ⟨j,hj⟩:∃ j,SplO file.data.toList j:=by
   obtain ⟨e,w',fr,⟨j,hj,_⟩,_⟩:=refSplit_any file w hz []
   exact ⟨j,hj⟩
  have HR:=hide (show Ref.newAtA m.data.toList file j=(1,[],⟨#[]⟩,0) by unfold Ref.newAtA;rw[if_pos (by rw[ba_len];exact hl)])
  have HJ:=hide hj
  generalize hNP:NewAtM m file w=NP
  clear hj hl jl
  go_enter Tryz.func79,Tryz.ntmps79
  go_wp2
  rw[←hNP]
  exact ⟨j,1,[],⟨#[]⟩,0,_,HJ.out,HR.out,rfl,fun _=>rfl,fun h=>absurd h (by decide),Below.refl _ _⟩
namespace Ref
theorem Spn.det {key C:List UInt8} {b a:Nat} {acc:List UInt8} {r s:List UInt8 × Int} (h:Spn key C b a acc r) (h2:Spn key C b a acc s):r=s:=by
 induction h using Ref.Spn.ind with
 | done a acc hle=>
  cases h2 using Ref.Spn.elim with
  | done=>rfl
  | bad _ _ q=>omega
  | more _ _ _ q=>omega
 | bad a acc hlt hb=>
  cases h2 using Ref.Spn.elim with
  | done _ _ q=>omega
  | bad=>rfl
  | more _ _ _ _ q=>exact absurd q hb
 | more a acc r hlt hk hn ih=>
  cases h2 using Ref.Spn.elim with
  | done _ _ q=>omega
  | bad _ _ _ q=>exact absurd hk q
  | more _ _ _ _ _ q=>exact ih q
theorem Spn.byte {key C:List UInt8} {b p:Nat} {out:List UInt8} (hp:p<b) (hk:(opnI key C (p/16)).2=0) {r:List UInt8 × Int} (h:Spn key C b (p+1) (out++((opnI key C (p/16)).1.drop (p-16*(p/16))).take 1) r):Spn key C b p out r:=by
 refine Spn.more p out r hp hk ?_
 have hu:=upTo_nums p b hp
 rcases Nat.eq_or_lt_of_le (show p+1≤upTo p b by omega) with e | e
 ·rw[←e,Nat.add_sub_cancel_left]
  exact h
 ·have hq:(p+1)/16=p/16:=by unfold upTo at e;omega
  have hu2:upTo (p+1) b=upTo p b:=by unfold upTo;rw[hq]
  have hpb:p+1<b:=by omega
  have key1:∀ x k,0<k→((opnI key C (p/16)).1.drop x).take 1++((opnI key C (p/16)).1.drop (x+1)).take (k-1)=((opnI key C (p/16)).1.drop x).take k:=by
   intro x k h0
   conv=>rhs;rw[show k=1+(k-1) by omega,List.take_add,List.drop_drop]
  cases h using Ref.Spn.elim with
  | done _ _ q=>omega
  | bad _ _ _ q=>rw[hq] at q;exact absurd hk q
  | more _ _ _ _ q hn=>
   rw[hq,hu2,List.append_assoc,show p+1-16*(p/16)=(p-16*(p/16))+1 by omega,show upTo p b-(p+1)=(upTo p b-p)-1 by omega,key1 _ _ (by omega)] at hn
   exact hn
end Ref
theorem PlC.len {key C:List UInt8} {n size:Nat} (h:PlC key C n size) (i:Nat) (hi:i<n) (ho:(Ref.opnI key C i).2=0):(Ref.opnI key C i).1.length=16:=by
 have hp:=h.pos
 have hn:=h.cn
 unfold Ref.opnI at ho ⊢
 rcases Ref.opnC_cases key i (decide (C.length≤32*i+32)) (Ref.boxI C i) with ⟨_,q,_⟩ | ⟨q,_⟩
 ·have:(Ref.boxI C i).length=32:=by unfold Ref.boxI;rw[List.length_take,List.length_drop];omega
  omega
 ·exact absurd ho q
theorem PlC.in_ {key C:List UInt8} {n size:Nat} (h:PlC key C n size) (p:Nat) (hp:p<size):p/16≤n∧((Ref.opnI key C (p/16)).2=0→p-16*(p/16)<(Ref.opnI key C (p/16)).1.length):=by
 have hs:=h.sz
 have h16:(Ref.opnI key C n).1.length≤16:=by
  unfold Ref.opnI
  have hb:=Ref.boxI_len C n
  rcases Ref.opnC_cases key n (decide (C.length≤32*n+32)) (Ref.boxI C n) with ⟨_,q,_⟩ | ⟨_,q⟩
  ·omega
  ·rw[q];exact Nat.zero_le _
 refine ⟨by omega,fun ho=>?_⟩
 rcases Nat.lt_or_ge (p/16) n with q | q
 ·rw[h.len _ q ho];omega
 ·have e:p/16=n:=by omega
  rw[e];omega
def ArR (w:World) (ab:Nat) (p:PlR) (o b:Nat) (vo vl vt vp:Value) (wr:World):Prop:=
 ∃ (P:Nat) (out:List UInt8),vo = .string ⟨out.toArray⟩∧vp = .int .i64 (P:Nat)∧o≤P∧P≤b∧out.length≤P∧(∀ r,Ref.Spn p.key.data.toList p.body.data.toList b P out r→Ref.Spn p.key.data.toList p.body.data.toList b o [] r) ∧
  ((∃ tt:ByteArray,vl = .int .i64 (-1)∧vt = .string tt)∨∃ q:Nat,vl = .int .i64 (q:Nat)∧q≤1099511627776∧(Ref.opnI p.key.data.toList p.body.data.toList q).2=0∧vt = .string ⟨(Ref.opnI p.key.data.toList p.body.data.toList q).1.toArray⟩) ∧
  Blk wr ab 198 p.mV∧Below w.heap.size w wr
theorem ar_nums (P:Nat) (h:P≤1099511627776):∃ q x y:Nat,(P:Int).tdiv 16=(q:Int)∧(P:Int)/16=(q:Int)∧(P:Int).tmod 16=(x:Int)∧(P:Int)%16=(x:Int)∧(x:Int)+1=(y:Int)∧q=P/16∧x=P-16*(P/16)∧y=x+1∧x<16:=
 ⟨P/16,P%16,P%16+1,by rw[Int.tdiv_eq_ediv_of_nonneg (by omega)];omega,by omega,by rw[Int.tmod_eq_emod_of_nonneg (by omega)];omega,by omega,by omega,rfl,by omega,rfl,by omega⟩
set_option maxRecDepth 100000 in
set_option maxHeartbeats 4000000 in
theorem refAtRun_any (ab:Nat) (p:PlR) (nn o:Nat) (w:World) (hB:Blk w ab 198 p.mV) (hk:p.key.size=32) (hC:PlC p.key.data.toList p.body.data.toList p.n p.size) (hb:p.body.size≤1099511627776) (hn:nn≤9223372036854775807) (ho:o≤p.size) (hz:p.size≤1099511627776):
  Calls Tryz.prog 87 #[.pointer (some ⟨ab,0,none⟩),.int .i64 (nn:Nat),.int .i64 (o:Nat)] w fun e w'=>∃ r,Ref.Spn p.key.data.toList p.body.data.toList (min (o+nn) p.size) o [] r∧e = .returned (.tuple #[.string ⟨r.1.toArray⟩,.int .i64 (if r.2≠0 then r.2 else if p.size<o+nn then 13 else 0)])∧Below w.heap.size w w':=by
 obtain ⟨b,hbb⟩:∃ b:Nat,min (o+nn) p.size=b:=⟨_,rfl⟩
 rw[hbb]
 have j0:¬ (nn:Int)<0:=by omega
 have j00:¬ (o:Int)<0:=by omega
 have H0:=hide (show ArR w ab p o b (.string ⟨#[]⟩) (.int .i64 (-1)) (.string ⟨#[]⟩) (.int .i64 (o:Nat)) w from ⟨o,[],rfl,rfl,Nat.le_refl _,by omega,Nat.zero_le _,fun r h=>h,.inl ⟨_,rfl,rfl⟩,hB,Below.refl _ _⟩)
 have HCK:=hide (fun i w' (h:Blk w' ab 198 p.mV) (hi:i≤p.n)=>refChunk_any ab p i w' h hk hC hi hb)
 have HIN:=hide (fun P (hP:P<p.size)=>hC.in_ P hP)
 have hnb:p.n≤1099511627776:=by
  have h1:=hC.cn
  have h2:p.body.data.toList.length=p.body.size:=ba_len _
  omega
 clear hC hk
 generalize hPP:(fun (e:Ending) (w':World)=>∃ r,Ref.Spn p.key.data.toList p.body.data.toList b o [] r∧e = .returned (.tuple #[.string ⟨r.1.toArray⟩,.int .i64 (if r.2≠0 then r.2 else if p.size<o+nn then 13 else 0)])∧Below w.heap.size w w')=PP
 go_enter Tryz.func87,Tryz.ntmps87
 go_wp2
 go_loopw [8,9,10,11] (fun vo vl vt vp wr=>ArR w ab p o b vo vl vt vp wr) (fun _ _ _ vp _=>b-(intOf vp).toNat)
 case atStart=>exact H0.out
 case round=>
  clear H0
  obtain ⟨P,out,rfl,rfl,hoP,hPb,hol,hS,hlast,hBl,hbe⟩:=hrel
  have c3:=hBl.cell (i:=3) rfl
  have HBL:=hide hBl
  have HBE:=hide hbe
  have hoz:(⟨out.toArray⟩:ByteArray).size=out.length:=two_size _
  obtain ⟨dP,hdP⟩:∃ x:Nat,P-o=x:=⟨_,rfl⟩
  have tdP:(P:Int)-(o:Int)=(dP:Int):=by omega
  by_cases hlt:P<b
  ·have jP:(P:Int)<(p.size:Int):=by omega
   have jd:(dP:Int)<(nn:Int):=by omega
   obtain ⟨q,x,y,t1,t2,t3,t4,t5,hq,hx,hy,hx16⟩:=ar_nums P (by omega)
   obtain ⟨hqn,hql⟩:=HIN.out P (by omega)
   rw[←hq] at hqn hql
   have hx0:x=P-16*q:=by rw[hq];exact hx
   have hqb:q≤1099511627776:=by omega
   have hwx:IntKind.i64.wrap ((x:Int)+1)=(y:Int):=(IntWalk.i64_in _ (by omega)).trans t5
   rw[hq] at hql
   rw[←hq,←hx0] at hql
   clear hx
   have HCQ:=hide (HCK.out q _ hBl hqn)
   rcases hlast with ⟨tt,rfl,rfl⟩ | ⟨q',rfl,hq'b,ho',rfl⟩
   ·have zl:((q:Int) == -1)=false:=beq_eq_false_iff_ne.2 (by omega)
    obtain ⟨oc,hoc⟩:∃ x,(Ref.opnI p.key.data.toList p.body.data.toList q).2=x:=⟨_,rfl⟩
    rw[hoc] at HCQ
    by_cases hbad:oc=0
    ·have ho0:(Ref.opnI p.key.data.toList p.body.data.toList q).2=0:=hoc.trans hbad
     subst hbad
     clear hoc
     have hTs:(⟨(Ref.opnI p.key.data.toList p.body.data.toList q).1.toArray⟩:ByteArray).size=(Ref.opnI p.key.data.toList p.body.data.toList q).1.length:=two_size _
     have hxl:=hql ho0
     have hEX:((⟨(Ref.opnI p.key.data.toList p.body.data.toList q).1.toArray⟩:ByteArray).extract x y).data.toList=((Ref.opnI p.key.data.toList p.body.data.toList q).1.drop x).take 1:=by rw[sub_list,two_toList,show y-x=1 by omega]
     have HNX:=hide (fun r (h:Ref.Spn p.key.data.toList p.body.data.toList b (P+1) (out++((⟨(Ref.opnI p.key.data.toList p.body.data.toList q).1.toArray⟩:ByteArray).extract x y).data.toList) r)=>hS r (Ref.Spn.byte hlt (by rw[←hq];exact ho0) (by rw[←hq,←hx0,←hEX];exact h)))
     have hEs:((⟨(Ref.opnI p.key.data.toList p.body.data.toList q).1.toArray⟩:ByteArray).extract x y).size=1:=by rw[ByteArray.size_extract];omega
     have jy:(y:Int)≤((⟨(Ref.opnI p.key.data.toList p.body.data.toList q).1.toArray⟩:ByteArray).size:Int):=by omega
     have jx:(x:Int)≤(y:Int):=by omega
     have hTb:(⟨(Ref.opnI p.key.data.toList p.body.data.toList q).1.toArray⟩:ByteArray).size≤32:=by rw[hTs];exact opnI_len _ _ _
     generalize hTT:(⟨(Ref.opnI p.key.data.toList p.body.data.toList q).1.toArray⟩:ByteArray)=TT at *
     have HTT:=hide hTT
     have HO0:=hide ho0
     have HAP:=hide (show (⟨out.toArray⟩:ByteArray)++TT.extract x y=⟨(out++(TT.extract x y).data.toList).toArray⟩ from ba_ext (by rw[ba_list]))
     have HLE:=hide (show (out++(TT.extract x y).data.toList).length≤P+1 by rw[List.length_append,ba_len,hEs];omega)
     have HQ:=hide (And.intro hoP (And.intro hlt hqb))
     generalize (⟨out.toArray⟩:ByteArray)=ob at *
     have hob:ob.size≤1099511627776:=by omega
     have hyb:y≤16:=by omega
     have u1:¬ (9223372036854775807<ob.size+(TT.extract x y).size):=by omega
     clear hEX hTT hS hql ho0 hxl hx0 hq hTs hol hoz hdP hy
     go_wp2_with fail
     refine HCQ.out.mono ?_
     rintro e w4 ⟨rfl,hb4⟩
     have HBL4:=hide (HBL.out.below hb4 HBL.out.lt)
     have HBE4:=hide (HBE.out.trans (hb4.mono HBE.out.size))
     clear HCQ hb4
     go_wp2
     go_roundw
     case rel=>exact ⟨P+1,out++(TT.extract x y).data.toList,by rw[HAP.out],by go_num,by have:=HQ.out;omega,HQ.out.2.1,HLE.out,HNX.out,.inr ⟨q,rfl,HQ.out.2.2,HO0.out,by rw[HTT.out]⟩,HBL4.out,HBE4.out⟩
     case measure=>have:=HQ.out;simp[intOf];omega
    ·have zo:(oc==0)=false:=beq_eq_false_iff_ne.2 hbad
     have HSB:=hide (hS (out,oc) (by have h:=Ref.Spn.bad (key:=p.key.data.toList) (body:=p.body.data.toList) P out hlt (by rw[←hq,hoc];exact hbad);rw[←hq,hoc] at h;exact h))
     have HBD:=hide hbad
     have hTb:(⟨out.toArray⟩:ByteArray).size≤1099511627776:=by omega
     clear hS hql hq hoc hbad
     go_wp2_with fail
     refine HCQ.out.mono ?_
     rintro e w4 ⟨rfl,hb4⟩
     have HBE4:=hide (HBE.out.trans (hb4.mono HBE.out.size))
     clear HCQ hb4
     go_wp2
     rw[←hPP];exact ⟨(out,oc),HSB.out,by rw[if_pos HBD.out];rfl,HBE4.out⟩
   ·by_cases hqq:q=q'
    ·subst hqq
     have ho0:=ho'
     clear HCQ ho'
     have hTs:(⟨(Ref.opnI p.key.data.toList p.body.data.toList q).1.toArray⟩:ByteArray).size=(Ref.opnI p.key.data.toList p.body.data.toList q).1.length:=two_size _
     have hxl:=hql ho0
     have hEX:((⟨(Ref.opnI p.key.data.toList p.body.data.toList q).1.toArray⟩:ByteArray).extract x y).data.toList=((Ref.opnI p.key.data.toList p.body.data.toList q).1.drop x).take 1:=by rw[sub_list,two_toList,show y-x=1 by omega]
     have HNX:=hide (fun r (h:Ref.Spn p.key.data.toList p.body.data.toList b (P+1) (out++((⟨(Ref.opnI p.key.data.toList p.body.data.toList q).1.toArray⟩:ByteArray).extract x y).data.toList) r)=>hS r (Ref.Spn.byte hlt (by rw[←hq];exact ho0) (by rw[←hq,←hx0,←hEX];exact h)))
     have hEs:((⟨(Ref.opnI p.key.data.toList p.body.data.toList q).1.toArray⟩:ByteArray).extract x y).size=1:=by rw[ByteArray.size_extract];omega
     have jy:(y:Int)≤((⟨(Ref.opnI p.key.data.toList p.body.data.toList q).1.toArray⟩:ByteArray).size:Int):=by omega
     have jx:(x:Int)≤(y:Int):=by omega
     have hTb:(⟨(Ref.opnI p.key.data.toList p.body.data.toList q).1.toArray⟩:ByteArray).size≤32:=by rw[hTs];exact opnI_len _ _ _
     generalize hTT:(⟨(Ref.opnI p.key.data.toList p.body.data.toList q).1.toArray⟩:ByteArray)=TT at *
     have HTT:=hide hTT
     have HO0:=hide ho0
     have HAP:=hide (show (⟨out.toArray⟩:ByteArray)++TT.extract x y=⟨(out++(TT.extract x y).data.toList).toArray⟩ from ba_ext (by rw[ba_list]))
     have HLE:=hide (show (out++(TT.extract x y).data.toList).length≤P+1 by rw[List.length_append,ba_len,hEs];omega)
     have HQ:=hide (And.intro hoP (And.intro hlt hqb))
     generalize (⟨out.toArray⟩:ByteArray)=ob at *
     have hob:ob.size≤1099511627776:=by omega
     have hyb:y≤16:=by omega
     have u1:¬ (9223372036854775807<ob.size+(TT.extract x y).size):=by omega
     clear hEX hTT hS hql ho0 hxl hx0 hq hTs hol hoz hdP hy
     go_wp2
     go_roundw
     case rel=>exact ⟨P+1,out++(TT.extract x y).data.toList,by rw[HAP.out],by go_num,by have:=HQ.out;omega,HQ.out.2.1,HLE.out,HNX.out,.inr ⟨q,rfl,HQ.out.2.2,HO0.out,by rw[HTT.out]⟩,HBL.out,HBE.out⟩
     case measure=>have:=HQ.out;simp[intOf];omega
    ·have zl:((q:Int)==(q':Int))=false:=beq_eq_false_iff_ne.2 (by omega)
     clear ho'
     obtain ⟨oc,hoc⟩:∃ x,(Ref.opnI p.key.data.toList p.body.data.toList q).2=x:=⟨_,rfl⟩
     rw[hoc] at HCQ
     by_cases hbad:oc=0
     ·have ho0:(Ref.opnI p.key.data.toList p.body.data.toList q).2=0:=hoc.trans hbad
      subst hbad
      clear hoc
      have hTs:(⟨(Ref.opnI p.key.data.toList p.body.data.toList q).1.toArray⟩:ByteArray).size=(Ref.opnI p.key.data.toList p.body.data.toList q).1.length:=two_size _
      have hxl:=hql ho0
      have hEX:((⟨(Ref.opnI p.key.data.toList p.body.data.toList q).1.toArray⟩:ByteArray).extract x y).data.toList=((Ref.opnI p.key.data.toList p.body.data.toList q).1.drop x).take 1:=by rw[sub_list,two_toList,show y-x=1 by omega]
      have HNX:=hide (fun r (h:Ref.Spn p.key.data.toList p.body.data.toList b (P+1) (out++((⟨(Ref.opnI p.key.data.toList p.body.data.toList q).1.toArray⟩:ByteArray).extract x y).data.toList) r)=>hS r (Ref.Spn.byte hlt (by rw[←hq];exact ho0) (by rw[←hq,←hx0,←hEX];exact h)))
      have hEs:((⟨(Ref.opnI p.key.data.toList p.body.data.toList q).1.toArray⟩:ByteArray).extract x y).size=1:=by rw[ByteArray.size_extract];omega
      have jy:(y:Int)≤((⟨(Ref.opnI p.key.data.toList p.body.data.toList q).1.toArray⟩:ByteArray).size:Int):=by omega
      have jx:(x:Int)≤(y:Int):=by omega
      have hTb:(⟨(Ref.opnI p.key.data.toList p.body.data.toList q).1.toArray⟩:ByteArray).size≤32:=by rw[hTs];exact opnI_len _ _ _
      generalize hTT:(⟨(Ref.opnI p.key.data.toList p.body.data.toList q).1.toArray⟩:ByteArray)=TT at *
      have HTT:=hide hTT
      have HO0:=hide ho0
      have HAP:=hide (show (⟨out.toArray⟩:ByteArray)++TT.extract x y=⟨(out++(TT.extract x y).data.toList).toArray⟩ from ba_ext (by rw[ba_list]))
      have HLE:=hide (show (out++(TT.extract x y).data.toList).length≤P+1 by rw[List.length_append,ba_len,hEs];omega)
      have HQ:=hide (And.intro hoP (And.intro hlt hqb))
      generalize (⟨out.toArray⟩:ByteArray)=ob at *
      have hob:ob.size≤1099511627776:=by omega
      have hyb:y≤16:=by omega
      have u1:¬ (9223372036854775807<ob.size+(TT.extract x y).size):=by omega
      clear hEX hTT hS hql ho0 hxl hx0 hq hTs hol hoz hdP hy
      go_wp2_with fail
      refine HCQ.out.mono ?_
      rintro e w4 ⟨rfl,hb4⟩
      have HBL4:=hide (HBL.out.below hb4 HBL.out.lt)
      have HBE4:=hide (HBE.out.trans (hb4.mono HBE.out.size))
      clear HCQ hb4
      go_wp2
      go_roundw
      case rel=>exact ⟨P+1,out++(TT.extract x y).data.toList,by rw[HAP.out],by go_num,by have:=HQ.out;omega,HQ.out.2.1,HLE.out,HNX.out,.inr ⟨q,rfl,HQ.out.2.2,HO0.out,by rw[HTT.out]⟩,HBL4.out,HBE4.out⟩
      case measure=>have:=HQ.out;simp[intOf];omega
     ·have zo:(oc==0)=false:=beq_eq_false_iff_ne.2 hbad
      have HSB:=hide (hS (out,oc) (by have h:=Ref.Spn.bad (key:=p.key.data.toList) (body:=p.body.data.toList) P out hlt (by rw[←hq,hoc];exact hbad);rw[←hq,hoc] at h;exact h))
      have HBD:=hide hbad
      have hTb:(⟨out.toArray⟩:ByteArray).size≤1099511627776:=by omega
      clear hS hql hq hoc hbad
      go_wp2_with fail
      refine HCQ.out.mono ?_
      rintro e w4 ⟨rfl,hb4⟩
      have HBE4:=hide (HBE.out.trans (hb4.mono HBE.out.size))
      clear HCQ hb4
      go_wp2
      rw[←hPP];exact ⟨(out,oc),HSB.out,by rw[if_pos HBD.out];rfl,HBE4.out⟩
  ·obtain rfl:P=b:=by omega
   have hSD:=hS (out,0) (Ref.Spn.done P out (Nat.le_refl _))
   have HSD:=hide hSD
   have jo:¬ (p.size:Int)<(o:Int):=by omega
   obtain ⟨dz,hdz⟩:∃ x:Nat,p.size-o=x:=⟨_,rfl⟩
   have tdz:(p.size:Int)-(o:Int)=(dz:Int):=by omega
   have hob:(⟨out.toArray⟩:ByteArray).size≤1099511627776:=by omega
   by_cases hov:p.size<o+nn
   ·have jz:(dz:Int)<(nn:Int):=by omega
    have jP:¬ (P:Int)<(p.size:Int):=by omega
    have HR:=hide (show (if (0:Int)≠0 then (0:Int) else if p.size<o+nn then 13 else 0)=13 by rw[if_neg (by decide),if_pos hov])
    clear hS hlast HCK HIN hSD hbb hdz hdP hov
    go_wp2
    rw[←hPP];exact ⟨(out,0),HSD.out,by rw[HR.out],HBE.out⟩
   ·have jz:¬ (dz:Int)<(nn:Int):=by omega
    have HR:=hide (show (if (0:Int)≠0 then (0:Int) else if p.size<o+nn then 13 else 0)=0 by rw[if_neg (by decide),if_neg hov])
    have jd:¬ (dP:Int)<(nn:Int):=by omega
    by_cases hPz:P<p.size
    ·have jP:(P:Int)<(p.size:Int):=by omega
     clear hS hlast HCK HIN hSD hbb hdz hdP hov
     go_wp2
     rw[←hPP];exact ⟨(out,0),HSD.out,by rw[HR.out],HBE.out⟩
    ·have jP:¬ (P:Int)<(p.size:Int):=by omega
     clear hS hlast HCK HIN hSD hbb hdz hdP hov
     go_wp2
     rw[←hPP];exact ⟨(out,0),HSD.out,by rw[HR.out],HBE.out⟩
theorem AtRd.det {key body:List UInt8} {size:Nat} {n off:Int} {r s:List UInt8 × Int} (h:AtRd key body size n off r) (h2:AtRd key body size n off s):r=s:=by
 cases h using AtRd.elim with
 | arg ha=>
  cases h2 using AtRd.elim with
  | arg=>rfl
  | over=>omega
  | all=>omega
  | some=>omega
 | over a b c=>
  cases h2 using AtRd.elim with
  | arg=>omega
  | over=>rfl
  | all=>omega
  | some=>omega
 | all _ a b c d=>
  cases h2 using AtRd.elim with
  | arg=>omega
  | over=>omega
  | all _ _ _ _ e=>exact d.det e
  | some=>omega
 | some r' a b c d e=>
  cases h2 using AtRd.elim with
  | arg=>omega
  | over=>omega
  | all=>omega
  | some s' _ _ _ _ f=>rw[e.det f]
set_option maxHeartbeats 400000 in
theorem refAtSize_any (ab:Nat) (p:PlR) (w:World) (hB:Blk w ab 198 p.mV):
  Calls Tryz.prog 89 #[.pointer (some ⟨ab,0,none⟩)] w fun e w'=>e = .returned (.int .i64 (p.size:Nat))∧w'=w:=by
 have c:=hB.cell (i:=3) rfl
 clear hB
 go_enter Tryz.func89,Tryz.ntmps89
 go_wp2
 go_ret
 exact ⟨rfl,rfl⟩
set_option maxRecDepth 100000 in
set_option maxHeartbeats 1600000 in
theorem refAtRead_any (ab:Nat) (p:PlR) (n off:Int) (w:World) (hB:Blk w ab 198 p.mV) (hk:p.key.size=32) (hC:PlC p.key.data.toList p.body.data.toList p.n p.size) (hb:p.body.size≤1099511627776) (hz:p.size≤1099511627776) (n1 : -9223372036854775808≤n) (n2:n≤9223372036854775807) (o1 : -9223372036854775808≤off) (o2:off≤9223372036854775807):
  Calls Tryz.prog 87 #[.pointer (some ⟨ab,0,none⟩),.int .i64 n,.int .i64 off] w fun e w'=>∃ r,AtRd p.key.data.toList p.body.data.toList p.size n off r∧e = .returned (ansV r)∧Below w.heap.size w w':=by
 by_cases hn:n<0
 ·have HR:=hide (AtRd.arg (key:=p.key.data.toList) (body:=p.body.data.toList) (size:=p.size) (n:=n) (off:=off) (.inl hn))
  clear hB hk hC hb hz
  go_enter Tryz.func87,Tryz.ntmps87
  go_wp2
  refine bodyPost_ret (results_tmp2 rfl _ _ _) rfl ?_
  first | exact ⟨([],2),HR.out,rfl,Below.refl _ _⟩ | exact ⟨[],2,HR.out,rfl,Below.refl _ _⟩
 ·have zn:decide (n<0)=false:=decide_eq_false hn
  by_cases ho:off<0
  ·have HR:=hide (AtRd.arg (key:=p.key.data.toList) (body:=p.body.data.toList) (size:=p.size) (n:=n) (off:=off) (.inr ho))
   clear hB hk hC hb hz
   go_enter Tryz.func87,Tryz.ntmps87
   go_wp2
   refine bodyPost_ret (results_tmp2 rfl _ _ _) rfl ?_
   first | exact ⟨([],2),HR.out,rfl,Below.refl _ _⟩ | exact ⟨[],2,HR.out,rfl,Below.refl _ _⟩
  ·obtain ⟨N,rfl⟩:∃ N:Nat,n=(N:Int):=⟨n.toNat,by omega⟩
   obtain ⟨O,rfl⟩:∃ O:Nat,off=(O:Int):=⟨off.toNat,by omega⟩
   by_cases h1:p.size<O
   ·have j0:¬ (N:Int)<0:=hn
    have j00:¬ (O:Int)<0:=ho
    have j1:¬ (O:Int)<(p.size:Int):=by omega
    have j2:(p.size:Int)<(O:Int):=by omega
    have c3:=hB.cell (i:=3) rfl
    have HR:=hide (AtRd.over (key:=p.key.data.toList) (body:=p.body.data.toList) (size:=p.size) (n:=(N:Int)) (off:=(O:Int)) (by omega) (by omega) j2)
    clear hB hk hC hb hz hn ho zn h1
    go_enter Tryz.func87,Tryz.ntmps87
    go_wp2
    go_loopw [8,9,10,11] (fun vo _ _ vp wr=>vo = .string ⟨#[]⟩∧vp = .int .i64 (O:Nat)∧wr=w) (fun _ _ _ _ _=>0)
    case atStart=>exact ⟨rfl,rfl,rfl⟩
    case round=>
     obtain ⟨rfl,rfl,rfl⟩:=hrel
     go_wp2
     refine bodyPost_ret (results_tmp2 rfl _ _ _) rfl ?_
     first | exact ⟨([],13),HR.out,rfl,Below.refl _ _⟩ | exact ⟨[],13,HR.out,rfl,Below.refl _ _⟩
   ·refine (refAtRun_any ab p N O w hB hk hC hb (by omega) (by omega) hz).mono ?_
    rintro e w' ⟨r,hr,rfl,hbe⟩
    by_cases h2:O+N≤p.size
    ·rw[Nat.min_eq_left h2] at hr
     refine ⟨r,AtRd.all r (by omega) (by omega) (by omega) (by rw[Int.toNat_natCast,Int.toNat_natCast];exact hr),?_,hbe⟩
     unfold ansV
     by_cases hr0:r.2=0
     ·rw[if_neg (fun q=>q hr0),if_neg (by omega),hr0]
     ·rw[if_pos hr0]
    ·rw[Nat.min_eq_right (by omega)] at hr
     refine ⟨_,AtRd.some r (by omega) (by omega) (by omega) (by omega) (by rw[Int.toNat_natCast];exact hr),?_,hbe⟩
     unfold ansV
     by_cases hr0:r.2=0
     ·rw[if_neg (fun q=>q hr0),if_pos (by omega),if_neg (fun q=>q hr0)]
     ·rw[if_pos hr0,if_pos hr0]
theorem Std.twoPl {base B M:Nat} {σ:Sig} {w w':World} (h:Std base B M σ w w') (i:Nat) (p:PlR) (hp:σ.pl[i]? = some p):
  ∃ g c,σ.vpl = .slice (some ⟨g,0,none⟩) σ.pl.length c∧c≤2 ^ 63-1∧∀ w2,Std base B M σ w w2→w2.cell? ⟨g,i*2,none⟩=some (.pointer (some ⟨p.bx,0,none⟩))∧w2.cell? ⟨g,i*2+1,none⟩=some (.pointer (some ⟨p.bm,0,none⟩)):=by
 obtain ⟨⟨T,h1⟩,_⟩:=h
 have hl:=(List.getElem?_eq_some_iff.1 hp).1
 obtain ⟨g,c,hv,_,hm,_⟩:=RowT.cells2 (f:=fun p:PlR=>ptrs p.bx p.bm) (fun _=>rfl) h1.rpl (by omega)
 refine ⟨g,c,hv,hm,fun w2 h2=>?_⟩
 obtain ⟨⟨T2,h3⟩,_⟩:=h2
 obtain ⟨g',c',hv',_,_,_,_,_,hcell⟩:=RowT.cells2 (f:=fun p:PlR=>ptrs p.bx p.bm) (fun _=>rfl) h3.rpl (by omega)
 rw[hv] at hv'
 injection hv' with e1 _ _
 injection e1 with e1
 injection e1 with e1 _ _
 subst e1
 exact ⟨hcell i p hp 0 _ rfl,hcell i p hp 1 _ rfl⟩
theorem PlC.small {key C:List UInt8} {n size:Nat} (h:PlC key C n size):size≤C.length+64:=by
 have h1:=h.cn
 have h2:=h.sz
 have h3:=opnI_len key C n
 omega
theorem Std.place {base B M:Nat} {σ:Sig} {w w':World} (h:Std base B M σ w w') {i:Nat} {p:PlR} (hp:σ.pl[i]? = some p):Blk w' p.bx 191 p.xV∧Blk w' p.bm 198 p.mV∧p.key.size=32∧PlC p.key.data.toList p.body.data.toList p.n p.size∧p.body.size≤1099511627776∧p.size≤1099511627776:=by
 obtain ⟨⟨T,h1⟩,_⟩:=h
 obtain ⟨a,b,c,d,e⟩:=h1.pl i p hp
 have hM:=h1.bound.1
 have hs:=d.small
 rw[ba_len] at hs
 exact ⟨a.1,b.1,c,d,by omega,by omega⟩
theorem Std.lenPl {base B M:Nat} {σ:Sig} {w w':World} (h:Std base B M σ w w'):∃ ao c,σ.vpl = .slice ao σ.pl.length c:=by
 obtain ⟨⟨T,h1⟩,_⟩:=h
 obtain ⟨a1,b1,e1,_⟩:=h1.rpl.zero
 exact ⟨a1,b1,e1⟩
theorem Std.below {base B M:Nat} {σ:Sig} {w w1 w2:World} (h:Std base B M σ w w1) (hb:Below w1.heap.size w1 w2):Std base B M σ w w2:=by
 obtain ⟨⟨T,h1⟩,h2⟩:=h
 exact ⟨⟨_,h1.below hb⟩,h2.trans (hb.mono h1.bsz)⟩
set_option maxRecDepth 100000 in
set_option maxHeartbeats 800000 in
theorem used_13n {T:Tags} {base B M M':Nat} {σ:Sig} {w:World} (h:Inv T base B M σ w) (o:OpR) (hk:o.kind=13) (hM:M<M') (hM2:M'≤1073741824) (h1:σ.pl.length=0):
  Calls Tryz.prog 34 #[.pointer (some ⟨B,0,none⟩),opV o] w fun e w'=>e = .returned (.bool true)∧Done base B M' w w':=by
 have z6:(o.kind==6)=false:=beq_eq_false_iff_ne.2 (by rw[hk];decide)
 have z7:(o.kind==7)=false:=beq_eq_false_iff_ne.2 (by rw[hk];decide)
 have z11:(o.kind==11)=false:=beq_eq_false_iff_ne.2 (by rw[hk];decide)
 have z13:(o.kind==13)=true:=beq_iff_eq.2 hk
 have hS:Std base B M σ w (w.alloc (.cells #[.int .i64 o.kind,.int .i64 o.a,.int .i64 o.b,.int .i64 o.c,.string o.s,.string o.t] 28)):=Std.alloc ⟨⟨T,h⟩,Below.refl _ _⟩ _
 obtain ⟨ao1,cp1,hv1⟩:=hS.lenPl
 have c1:=hS.field 5 (v:=.slice ao1 0 cp1) (by show some σ.vpl=_;rw[hv1,h1])
 have HS:=hide (hS.more (Nat.le_of_lt hM) hM2)
 clear hS h hv1 h1 hk
 unfold opV
 go_enter Tryz.func34,Tryz.ntmps34
 go_wp2
 go_ret
 exact ⟨rfl,HS.out.done⟩
set_option maxRecDepth 100000 in
set_option maxHeartbeats 800000 in
theorem used_14n {T:Tags} {base B M M':Nat} {σ:Sig} {w:World} (h:Inv T base B M σ w) (o:OpR) (hk:o.kind=14) (hM:M<M') (hM2:M'≤1073741824) (h1:σ.pl.length=0):
  Calls Tryz.prog 34 #[.pointer (some ⟨B,0,none⟩),opV o] w fun e w'=>e = .returned (.bool true)∧Done base B M' w w':=by
 have z6:(o.kind==6)=false:=beq_eq_false_iff_ne.2 (by rw[hk];decide)
 have z7:(o.kind==7)=false:=beq_eq_false_iff_ne.2 (by rw[hk];decide)
 have z11:(o.kind==11)=false:=beq_eq_false_iff_ne.2 (by rw[hk];decide)
 have z13:(o.kind==13)=false:=beq_eq_false_iff_ne.2 (by rw[hk];decide)
 have z14:(o.kind==14)=true:=beq_iff_eq.2 hk
 have hS:Std base B M σ w (w.alloc (.cells #[.int .i64 o.kind,.int .i64 o.a,.int .i64 o.b,.int .i64 o.c,.string o.s,.string o.t] 28)):=Std.alloc ⟨⟨T,h⟩,Below.refl _ _⟩ _
 obtain ⟨ao1,cp1,hv1⟩:=hS.lenPl
 have c1:=hS.field 5 (v:=.slice ao1 0 cp1) (by show some σ.vpl=_;rw[hv1,h1])
 have HS:=hide (hS.more (Nat.le_of_lt hM) hM2)
 clear hS h hv1 h1 hk
 unfold opV
 go_enter Tryz.func34,Tryz.ntmps34
 go_wp2
 go_ret
 exact ⟨rfl,HS.out.done⟩
theorem Inv.addPl {T:Tags} {base B M M':Nat} {σ:Sig} {w w1:World} (h:Inv T base B M σ w) (hM:M<M') (hM2:M'≤1073741824) (x:PlR) (hx1:At T w (36,σ.pl.length) x.bx 191 x.xV) (hx2:At T w (37,σ.pl.length) x.bm 198 x.mV) (hk:x.key.size=32) (hC:PlC x.key.data.toList x.body.data.toList x.n x.size) (hb:x.body.size≤512*M'+65536)
  (o:Obj) (v':Value) (hg:(w.alloc o).grownBy w1 σ.vpl.ownBlock) (hr:Row w1 0 117 2 v' (σ.pl.length+1) ((σ.pl.flatMap fun p=>ptrs p.bx p.bm)++ptrs x.bx x.bm)) (hat:v'.ownBlock=σ.vpl.ownBlock∨∃ g,v'.ownBlock=some g∧(w.alloc o).heap.size≤g):
  ∃ T',Inv T' base B M' { σ with vpl:=v',pl:=σ.pl++[x] } (w1.setCell ⟨B,5,none⟩ v')∧Below base w (w1.setCell ⟨B,5,none⟩ v'):=by
 obtain ⟨q1,q2,q3⟩:=append_field (f:=5) h.hw h.rpl (by decide) hg hr hat
 refine ⟨fresh T w (2,5),h.upl (Nat.le_of_lt hM) v' (σ.pl++[x]) (q1.mono (by intro c hc;rcases hc with h | h <;> simp[h])) q2 ?_ ?_ ?_ ?_ ?_,q1.below h.bsz h.old (by simp)⟩
 ·have:((σ.pl++[x]).flatMap fun p=>ptrs p.bx p.bm)=(σ.pl.flatMap fun p=>ptrs p.bx p.bm)++ptrs x.bx x.bm:=by simp[List.flatMap_append]
  rw[this]
  simpa using q3
 ·intro i p hp
  by_cases hi:i<σ.pl.length
  ·rw[List.getElem?_append_left hi] at hp
   obtain ⟨a1,a2,a3,a4,a5⟩:=h.pl i p hp
   exact ⟨a1.stays q1 (by simp),a2.stays q1 (by simp),a3,a4,by omega⟩
  ·have hi2:i=σ.pl.length:=by
    have:=(List.getElem?_eq_some_iff.1 hp).1
    simp at this;omega
   subst hi2
   simp at hp
   subst hp
   exact ⟨hx1.stays q1 (by simp),hx2.stays q1 (by simp),hk,hC,hb⟩
 ·have:=h.npl;simp;omega
 ·have:=h.bound;simp;omega
 ·exact sizes_more (Nat.le_of_lt hM) h.sizes
theorem infoAt:(Tryz.prog.info? 117).map (fun i=>(i.zero,i.size,i.bytes))=some (some (.agg #[.pointer none,.pointer none]),2,16):=by kernel_rfl
theorem AtN.facts {key:List UInt8} {ch:ByteArray} {size:Nat} (h1:0<ch.size) (h2:(Ref.opnI key ch.data.toList ((ch.size-1)/32)).2=0) (h3:size=16*((ch.size-1)/32)+(Ref.opnI key ch.data.toList ((ch.size-1)/32)).1.length):PlC key ch.data.toList ((ch.size-1)/32) size:=
 ⟨by rw[ba_len];exact h1,by rw[ba_len],h2,h3⟩
set_option maxRecDepth 100000 in
set_option maxHeartbeats 1600000 in
theorem made_12 {T:Tags} {base B M M':Nat} {σ:Sig} {w:World} (h:Inv T base B M σ w) (o:OpR) (hok:o.ok) (hk:o.kind=12) (ht:o.t.size≤M) (hM:M<M') (hM2:M'≤1073741824):
  Calls Tryz.prog 33 #[.pointer (some ⟨B,0,none⟩),opV o] w fun e w'=>e = .returned (.bool true)∧Done base B M' w w':=by
 have z5:(o.kind==5)=false:=beq_eq_false_iff_ne.2 (by rw[hk];decide)
 have z10:(o.kind==10)=false:=beq_eq_false_iff_ne.2 (by rw[hk];decide)
 have hS:Std base B M σ w (w.alloc (.cells #[.int .i64 o.kind,.int .i64 o.a,.int .i64 o.b,.int .i64 o.c,.string o.s,.string o.t] 28)):=Std.alloc ⟨⟨T,h⟩,Below.refl _ _⟩ _
 have hlt:w.heap.size<(w.alloc (.cells #[.int .i64 o.kind,.int .i64 o.a,.int .i64 o.b,.int .i64 o.c,.string o.s,.string o.t] 28)).heap.size:=by simp
 have hbx:Blk (w.alloc (.cells #[.int .i64 o.kind,.int .i64 o.a,.int .i64 o.b,.int .i64 o.c,.string o.s,.string o.t] 28)) w.heap.size 28 o.cells:=Blk.new rfl rfl
 have hfz:σ.file.size≤1099511627776:=by have h1:=h.sizes.2.2.2.1;have h2:=h.bound.1;omega
 have hfb:σ.file.size≤512*M'+65536:=by have h1:=h.sizes.2.2.2.1;omega
 have HTW:=hide h.two
 have HS:=hide hS
 have HX:=hide hbx
 clear hS h hk hbx
 unfold opV
 go_enter Tryz.func33,Tryz.ntmps33
 go_wp2_with fail
 obtain ⟨⟨T9,hI9⟩,hB9⟩:=HS.out
 refine (long_any hI9 o hok (by omega)).mono ?_
 rintro e w2 ⟨t,rfl,_,hb2⟩
 have e0:=(HX.out.below hb2 hlt).cell (i:=0) (v:=.int .i64 o.kind) rfl
 have hI2:=hI9.below hb2
 have hB2:=hB9.trans (hb2.mono hI9.bsz)
 generalize fresh T9 _ (9,9)=T2 at *
 have c11:=hI2.hw.1.cell (i:=11) rfl
 have HTB:=hide (show Tabs w2 from ⟨hI2.kt,hI2.ht,Nat.le_trans HTW.out hI2.bsz⟩)
 have HI2:=hide hI2
 have HB2:=hide hB2
 have HPX:=hide (newAt_any t σ.file w2 HTB.out hfz)
 have HPM:=hide (fun w'=>refNewAt_any t σ.file w' hfz)
 clear hI2 hB2 hI9 hB9 HS HX hb2 HTB
 generalize w.heap.size=sb at *
 go_wp2_with fail
 refine HPX.out.mono ?_
 rintro e w3 ⟨k,key,ch,size,pv,hN,rfl,hk1,hk2,hb3⟩
 have HN:=hide hN
 have hsz2:=hb3.size
 have hI3:=HI2.out.same (Nat.le_refl _) HI2.out.bound.1 (Stays.of_below (36,σ.pl.length) hb3)
 have HB3:=hide (HB2.out.trans (hb3.mono HI2.out.bsz))
 have HT3:=hide (fun ab (h:w2.heap.size≤ab)=>fresh_new T2 w2 (36,σ.pl.length) ab h)
 generalize fresh T2 w2 (36,σ.pl.length)=T3 at *
 have c113:=hI3.hw.1.cell (i:=11) rfl
 have HI3:=hide hI3
 have HK1:=hide hk1
 have HK2:=hide hk2
 have hpv:∃ a,pv = .pointer a:=by
  by_cases hk0:k=0
  ·obtain ⟨ab,_,rfl,_⟩:=hk2 hk0;exact ⟨_,rfl⟩
  ·exact ⟨none,hk1 hk0⟩
 obtain ⟨pa,rfl⟩:=hpv
 clear HPX hb3 hI3 HI2 HB2 hN hk1 hk2 c11 e0
 go_wp2_with fail
 refine (HPM.out _).mono ?_
 rintro e w4 ⟨j,k',key',ch',size',qv,hj,hA,rfl,hq1,hq2,hb4⟩
 have hEQ:=(atN_ref HN.out hj).symm.trans hA
 injection hEQ with q1 q2
 injection q2 with q2 q3
 injection q3 with q3 q4
 subst q1
 subst q2
 subst q3
 subst q4
 have hI4:=HI3.out.same (Nat.le_refl _) HI3.out.bound.1 (Stays.of_below (37,σ.pl.length) hb4)
 have HB4:=hide (HB3.out.trans (hb4.mono HI3.out.bsz))
 have HT4:=hide (fun ab (h:w3.heap.size≤ab)=>fresh_new T3 w3 (37,σ.pl.length) ab h)
 have HT4o:=hide (fun ab (h:ab<w3.heap.size)=>fresh_old T3 w3 (37,σ.pl.length) ab h)
 generalize fresh T3 w3 (37,σ.pl.length)=T4 at *
 by_cases hk0:k=0
 ·subst hk0
  obtain ⟨ab,ha1,hpa,hab,hkl,_⟩:=HK2.out rfl
  injection hpa with hpa
  subst hpa
  obtain ⟨bb,ha2,rfl,hbb,f1,f2,f3,_,f5⟩:=hq2 rfl
  have HX1:=hide (show At T4 w4 (36,σ.pl.length) ab 191 (PlR.xV ⟨ab,bb,⟨key.toArray⟩,ch,(ch.size-1)/32,size⟩) from ⟨hab.below hb4 hab.lt,(HT4o.out ab hab.lt).trans (HT3.out ab ha1)⟩)
  have HX2:=hide (show At T4 w4 (37,σ.pl.length) bb 198 (PlR.mV ⟨ab,bb,⟨key.toArray⟩,ch,(ch.size-1)/32,size⟩) from ⟨hbb,HT4.out bb ha2⟩)
  have HKZ:=hide (show (⟨key.toArray⟩:ByteArray).size=32 by rw[two_size,hkl])
  have HC:=hide (show PlC (⟨key.toArray⟩:ByteArray).data.toList ch.data.toList ((ch.size-1)/32) size by rw[two_toList];exact AtN.facts f1 f2 f3)
  have HCB:=hide (show ch.size≤512*M'+65536 by omega)
  have c5:=hI4.hw.1.cell (i:=5) rfl
  have hlen:=hI4.npl
  have hMb:=hI4.bound.1
  have key0:=fun (w1:World) (o:Obj) (hg:(w4.alloc o).grownBy w1 σ.vpl.ownBlock)=>(hI4.hw.1.alloc o).grown hg (fun e=>absurd (hI4.rpl.2 B e.symm) (by rw[hI4.hw.2];decide))
  have HK:=hide key0
  have HI4:=hide hI4
  clear key0 hI4 hb4 hq1 hq2 hab hbb f1 f2 f3 f5 hkl HN hj hA HI3 HB3 HT3 HT4 HT4o HK1 HK2 ha1 ha2 c113 hfb
  go_wp2_with (at_builtin;refine wpList_append_two 117 36 _ 16 infoAt Tryz.underlying36 rfl (by decide) rfl (.tmp 114) (.tmp 118) rfl _ σ.pl.length _ rfl (HI4.out.rpl.1.alloc _) _ (.pointer (some ⟨ab,0,none⟩)) (.pointer (some ⟨bb,0,none⟩)) rfl rfl rfl (World.cell?_alloc_at _ _ _ _ rfl) (World.cell?_alloc_at _ _ _ _ rfl) ?_ ?_;omega;intro v1 w5 hr1 hg1 hat1;obtain ⟨g9,cap9,cur9,rfl,_⟩:=hr1.open (Nat.succ_pos _);have hbw:=HK.out w5 _ hg1;have d0:=hbw.cell (i:=5) rfl;have f5:=hbw.frozen)
  go_ret
  obtain ⟨T',i1,i2⟩:=HI4.out.addPl hM hM2 ⟨ab,bb,⟨key.toArray⟩,ch,(ch.size-1)/32,size⟩ HX1.out HX2.out HKZ.out HC.out HCB.out _ _ hg1 hr1 hat1
  exact ⟨rfl,T',_,i1,HB4.out.trans i2⟩
 ·have z1:(k==0)=false:=beq_eq_false_iff_ne.2 hk0
  have hpa:=HK1.out hk0
  injection hpa with hpa
  subst hpa
  obtain rfl:=hq1 hk0
  have HF:=hide (show Done base B M' w w4 from ⟨_,_,hI4.more (Nat.le_of_lt hM) hM2,HB4.out⟩)
  clear hI4 hb4 hq2 HN hj hA HI3 HB3 HT3 HT4 HT4o HK1 HK2 c113 hfb HB4 hk0
  go_wp2
  go_ret
  exact ⟨by simp,HF.out⟩
set_option maxRecDepth 100000 in
set_option maxHeartbeats 1600000 in
theorem used_14s {T:Tags} {base B M M':Nat} {σ:Sig} {w:World} (h:Inv T base B M σ w) (o:OpR) (hok:o.ok) (hk:o.kind=14) (hM:M<M') (hM2:M'≤1073741824) (h1:0<σ.pl.length):
  Calls Tryz.prog 34 #[.pointer (some ⟨B,0,none⟩),opV o] w fun e w'=>e = .returned (.bool true)∧Done base B M' w w':=by
 have z6:(o.kind==6)=false:=beq_eq_false_iff_ne.2 (by rw[hk];decide)
 have z7:(o.kind==7)=false:=beq_eq_false_iff_ne.2 (by rw[hk];decide)
 have z11:(o.kind==11)=false:=beq_eq_false_iff_ne.2 (by rw[hk];decide)
 have z13:(o.kind==13)=false:=beq_eq_false_iff_ne.2 (by rw[hk];decide)
 have z14:(o.kind==14)=true:=beq_iff_eq.2 hk
 have hS:Std base B M σ w (w.alloc (.cells #[.int .i64 o.kind,.int .i64 o.a,.int .i64 o.b,.int .i64 o.c,.string o.s,.string o.t] 28)):=Std.alloc ⟨⟨T,h⟩,Below.refl _ _⟩ _
 have e1:(w.alloc (.cells #[.int .i64 o.kind,.int .i64 o.a,.int .i64 o.b,.int .i64 o.c,.string o.s,.string o.t] 28)).cell? ⟨w.heap.size,1,none⟩=some (.int .i64 o.a):=World.cell?_alloc_at _ _ _ _ rfl
 have hbd:=h.bound
 have hnf:=h.npl
 have hoa:=hok.a
 have hob:=hok.b
 have hoc:=hok.c
 have hpk1:=pickN_lt o.a σ.pl.length h1
 obtain ⟨p1,hp1⟩:∃ p,σ.pl[pickN o.a σ.pl.length]? = some p:=⟨_,List.getElem?_eq_getElem hpk1⟩
 obtain ⟨g1,cap1,hw1,hm1,hcell1⟩:=hS.twoPl _ p1 hp1
 have hpick1:=fun w=>pick_any o.a σ.pl.length w hoa.1 hoa.2 h1 (by omega)
 have jn1:(0:Int)<(σ.pl.length:Int):=by omega
 have kp1:(pickN o.a σ.pl.length:Int)<(σ.pl.length:Int):=by omega
 have HPK1:=hide hpick1
 have HC1:=hide hcell1
 have HP1:=hide hp1
 have HN1:=hide hnf
 have HMB:=hide hbd.1
 have HKL:=hide (And.intro hM hM2)
 clear hpick1 hcell1 hp1
 have HF0:=hide (show ∀ w2,Std base B M σ w w2→w2.cell? ⟨B,5,none⟩=some (.slice (some ⟨g1,0,none⟩) σ.pl.length cap1) from fun w2 h2=>h2.field 5 (by show some σ.vpl=_;rw[hw1]))
 have HS:=hide hS
 clear hS h hw1 hk
 generalize hn1:σ.pl.length=n1 at *
 generalize pickN o.a n1=pk1 at *
 clear hn1
 have c0:=HF0.out _ HS.out
 unfold opV
 go_enter Tryz.func34,Tryz.ntmps34
 go_wp2
 refine wp_letterW (fun w'=>Std base B M σ w w'∧w'.cell? ⟨w.heap.size,1,none⟩=some (.int .i64 o.a)) ⟨HS.out,e1⟩ ?_
 clear c0 e1 HS
 rintro wq1 ⟨hS1,e1⟩
 have c0:=HF0.out _ hS1
 obtain ⟨d0,d1⟩:=HC1.out _ hS1
 replace hS1:=hide hS1
 go_region_held3 (fun w'=>w'.cell? ⟨B,5,none⟩=some (.slice (some ⟨g1,0,none⟩) n1 cap1)∧w'.cell? ⟨w.heap.size,1,none⟩=some (.int .i64 o.a)∧w'.cell? ⟨g1,pk1*2,none⟩=some (.pointer (some ⟨p1.bx,0,none⟩))∧w'.cell? ⟨g1,pk1*2+1,none⟩=some (.pointer (some ⟨p1.bm,0,none⟩))) (refine ⟨?_,?_,?_,?_⟩ <;> first | assumption | (exact World.cell?_alloc_later _ _ _ (by assumption))) ((go_at_call 48;refine (HPK1.out _).mono ?_;rintro e w' ⟨rfl,rfl⟩))
 all_goals
  have HSn:=hide ((hS1.out.alloc (.cells #[.pointer (some ⟨p1.bx,0,none⟩),.pointer (some ⟨p1.bm,0,none⟩)] 117)).drew)
  obtain ⟨x0,x1,x2,x3,x4,x5⟩:=HSn.out.place HP1.out
  clear c0 d0 d1 e1 hS1 HF0 HC1
  go_wp2_with fail
  refine (atSize_any p1.bx p1.key p1.body p1.size _ x0).mono ?_
  rintro e w2 ⟨rfl,rfl⟩
  go_wp2_with fail
  refine (refAtSize_any p1.bm p1 _ x1).mono ?_
  rintro e w2 ⟨rfl,rfl⟩
  clear x0 x1 x2 x3
  go_wp2
  go_ret
  exact ⟨by simp,(HSn.out.more (Nat.le_of_lt HKL.out.1) HKL.out.2).done⟩
theorem cell_lt {w:World} {b i:Nat} {v:Value} (h:w.cell? ⟨b,i,none⟩=some v):b<w.heap.size:=by
 rcases Nat.lt_or_ge b w.heap.size with q | q
 ·exact q
 ·simp[World.cell?,Array.getElem?_eq_none q] at h
set_option maxRecDepth 100000 in
set_option maxHeartbeats 1600000 in
theorem used_13s {T:Tags} {base B M M':Nat} {σ:Sig} {w:World} (h:Inv T base B M σ w) (o:OpR) (hok:o.ok) (hk:o.kind=13) (hM:M<M') (hM2:M'≤1073741824) (h1:0<σ.pl.length):
  Calls Tryz.prog 34 #[.pointer (some ⟨B,0,none⟩),opV o] w fun e w'=>e = .returned (.bool true)∧Done base B M' w w':=by
 have z6:(o.kind==6)=false:=beq_eq_false_iff_ne.2 (by rw[hk];decide)
 have z7:(o.kind==7)=false:=beq_eq_false_iff_ne.2 (by rw[hk];decide)
 have z11:(o.kind==11)=false:=beq_eq_false_iff_ne.2 (by rw[hk];decide)
 have z13:(o.kind==13)=true:=beq_iff_eq.2 hk
 have hS:Std base B M σ w (w.alloc (.cells #[.int .i64 o.kind,.int .i64 o.a,.int .i64 o.b,.int .i64 o.c,.string o.s,.string o.t] 28)):=Std.alloc ⟨⟨T,h⟩,Below.refl _ _⟩ _
 have e1:(w.alloc (.cells #[.int .i64 o.kind,.int .i64 o.a,.int .i64 o.b,.int .i64 o.c,.string o.s,.string o.t] 28)).cell? ⟨w.heap.size,1,none⟩=some (.int .i64 o.a):=World.cell?_alloc_at _ _ _ _ rfl
 have e2:(w.alloc (.cells #[.int .i64 o.kind,.int .i64 o.a,.int .i64 o.b,.int .i64 o.c,.string o.s,.string o.t] 28)).cell? ⟨w.heap.size,2,none⟩=some (.int .i64 o.b):=World.cell?_alloc_at _ _ _ _ rfl
 have e3:(w.alloc (.cells #[.int .i64 o.kind,.int .i64 o.a,.int .i64 o.b,.int .i64 o.c,.string o.s,.string o.t] 28)).cell? ⟨w.heap.size,3,none⟩=some (.int .i64 o.c):=World.cell?_alloc_at _ _ _ _ rfl
 have hbd:=h.bound
 have hnf:=h.npl
 have hoa:=hok.a
 have hob:=hok.b
 have hoc:=hok.c
 have hpk1:=pickN_lt o.a σ.pl.length h1
 obtain ⟨p1,hp1⟩:∃ p,σ.pl[pickN o.a σ.pl.length]? = some p:=⟨_,List.getElem?_eq_getElem hpk1⟩
 obtain ⟨g1,cap1,hw1,hm1,hcell1⟩:=hS.twoPl _ p1 hp1
 have hpick1:=fun w=>pick_any o.a σ.pl.length w hoa.1 hoa.2 h1 (by omega)
 have jn1:(0:Int)<(σ.pl.length:Int):=by omega
 have kp1:(pickN o.a σ.pl.length:Int)<(σ.pl.length:Int):=by omega
 have HPK1:=hide hpick1
 have HC1:=hide hcell1
 have HP1:=hide hp1
 have HN1:=hide hnf
 have HMB:=hide hbd.1
 have HKL:=hide (And.intro hM hM2)
 clear hpick1 hcell1 hp1
 have HF0:=hide (show ∀ w2,Std base B M σ w w2→w2.cell? ⟨B,5,none⟩=some (.slice (some ⟨g1,0,none⟩) σ.pl.length cap1) from fun w2 h2=>h2.field 5 (by show some σ.vpl=_;rw[hw1]))
 have HS:=hide hS
 clear hS h hw1 hk
 generalize hn1:σ.pl.length=n1 at *
 generalize pickN o.a n1=pk1 at *
 clear hn1
 have c0:=HF0.out _ HS.out
 unfold opV
 go_enter Tryz.func34,Tryz.ntmps34
 go_wp2
 refine wp_letterW (fun w'=>Std base B M σ w w'∧w'.cell? ⟨w.heap.size,1,none⟩=some (.int .i64 o.a)∧w'.cell? ⟨w.heap.size,2,none⟩=some (.int .i64 o.b)∧w'.cell? ⟨w.heap.size,3,none⟩=some (.int .i64 o.c)) ⟨HS.out,e1,e2,e3⟩ ?_
 clear c0 e1 e2 e3 HS
 rintro wq1 ⟨hS1,e1,e2,e3⟩
 have c0:=HF0.out _ hS1
 obtain ⟨d0,d1⟩:=HC1.out _ hS1
 replace hS1:=hide hS1
 go_region_held3 (fun w'=>w'.cell? ⟨B,5,none⟩=some (.slice (some ⟨g1,0,none⟩) n1 cap1)∧w'.cell? ⟨w.heap.size,1,none⟩=some (.int .i64 o.a)∧w'.cell? ⟨w.heap.size,2,none⟩=some (.int .i64 o.b)∧w'.cell? ⟨w.heap.size,3,none⟩=some (.int .i64 o.c)∧w'.cell? ⟨g1,pk1*2,none⟩=some (.pointer (some ⟨p1.bx,0,none⟩))∧w'.cell? ⟨g1,pk1*2+1,none⟩=some (.pointer (some ⟨p1.bm,0,none⟩))) (refine ⟨?_,?_,?_,?_,?_,?_⟩ <;> first | assumption | (exact World.cell?_alloc_later _ _ _ (by assumption))) ((go_at_call 48;refine (HPK1.out _).mono ?_;rintro e w' ⟨rfl,rfl⟩))
 all_goals
  have HSn:=hide ((hS1.out.alloc (.cells #[.pointer (some ⟨p1.bx,0,none⟩),.pointer (some ⟨p1.bm,0,none⟩)] 117)).drew)
  obtain ⟨x0,x1,x2,x3,x4,x5⟩:=HSn.out.place HP1.out
  have HX1:=hide x1
  have HRX:=hide (atRead_any p1.bx p1.key p1.body p1.size o.b o.c _ x0 x2 x5 hob.1 hob.2 hoc.1 hoc.2)
  have HRM:=hide (fun w' h=>refAtRead_any p1.bm p1 o.b o.c w' h x2 x3 x4 x5 hob.1 hob.2 hoc.1 hoc.2)
  have y1:((wq1.alloc (.cells #[.pointer (some ⟨p1.bx,0,none⟩),.pointer (some ⟨p1.bm,0,none⟩)] 117)).drew).cell? ⟨wq1.heap.size,1,none⟩=some (.pointer (some ⟨p1.bm,0,none⟩)):=World.cell?_alloc_at _ _ _ _ rfl
  have y2:((wq1.alloc (.cells #[.pointer (some ⟨p1.bx,0,none⟩),.pointer (some ⟨p1.bm,0,none⟩)] 117)).drew).cell? ⟨w.heap.size,2,none⟩=some (.int .i64 o.b):=World.cell?_alloc_later wq1 _ _ e2
  have y3:((wq1.alloc (.cells #[.pointer (some ⟨p1.bx,0,none⟩),.pointer (some ⟨p1.bm,0,none⟩)] 117)).drew).cell? ⟨w.heap.size,3,none⟩=some (.int .i64 o.c):=World.cell?_alloc_later wq1 _ _ e3
  have hl1:w.heap.size<(wq1.alloc (.cells #[.pointer (some ⟨p1.bx,0,none⟩),.pointer (some ⟨p1.bm,0,none⟩)] 117)).drew.heap.size:=cell_lt y2
  have hl2:wq1.heap.size<(wq1.alloc (.cells #[.pointer (some ⟨p1.bx,0,none⟩),.pointer (some ⟨p1.bm,0,none⟩)] 117)).drew.heap.size:=cell_lt y1
  have HY:=hide (fun w2 (hb2:Below (wq1.alloc (.cells #[.pointer (some ⟨p1.bx,0,none⟩),.pointer (some ⟨p1.bm,0,none⟩)] 117)).drew.heap.size _ w2)=>And.intro ((hb2.cell hl2).trans y1) (And.intro ((hb2.cell hl1).trans y2) ((hb2.cell hl1).trans y3)))
  clear c0 d0 d1 e1 e2 e3 hS1 x0 x1 x2 x3 x4 x5 HF0 HC1 y1 y2 y3 hl1 hl2
  go_wp2_with fail
  refine HRX.out.mono ?_
  rintro e w2 ⟨r,hr,rfl,hb2⟩
  obtain ⟨y1,y2,y3⟩:=HY.out w2 hb2
  have HS2:=hide (HSn.out.below hb2)
  have HR:=hide hr
  have HM2:=hide (HRM.out w2 (HX1.out.below hb2 HX1.out.lt))
  unfold ansV
  clear HY HSn HRX HRM hr hb2 HX1
  go_wp2_with fail
  refine HM2.out.mono ?_
  rintro e w3 ⟨s,hs,rfl,hb3⟩
  obtain rfl:=HR.out.det hs
  have HS3:=hide (HS2.out.below hb3)
  unfold ansV
  clear hs hb3 HM2 HS2 HR y1 y2 y3
  obtain ⟨rt,re⟩:=r
  generalize (⟨rt.toArray⟩:ByteArray)=bt at *
  go_wp2
  go_ret
  exact ⟨by simp,(HS3.out.more (Nat.le_of_lt HKL.out.1) HKL.out.2).done⟩
theorem used_13 {T:Tags} {base B M M':Nat} {σ:Sig} {w:World} (h:Inv T base B M σ w) (o:OpR) (hok:o.ok) (hk:o.kind=13) (hM:M<M') (hM2:M'≤1073741824):
  Calls Tryz.prog 34 #[.pointer (some ⟨B,0,none⟩),opV o] w fun e w'=>e = .returned (.bool true)∧Done base B M' w w':=by
 rcases Nat.eq_zero_or_pos σ.pl.length with h1 | h1
 ·exact used_13n h o hk hM hM2 h1
 ·exact used_13s h o hok hk hM hM2 h1
theorem used_14 {T:Tags} {base B M M':Nat} {σ:Sig} {w:World} (h:Inv T base B M σ w) (o:OpR) (hok:o.ok) (hk:o.kind=14) (hM:M<M') (hM2:M'≤1073741824):
  Calls Tryz.prog 34 #[.pointer (some ⟨B,0,none⟩),opV o] w fun e w'=>e = .returned (.bool true)∧Done base B M' w w':=by
 rcases Nat.eq_zero_or_pos σ.pl.length with h1 | h1
 ·exact used_14n h o hk hM hM2 h1
 ·exact used_14s h o hok hk hM hM2 h1
set_option maxRecDepth 100000 in
set_option maxHeartbeats 800000 in
theorem drive_12 {base B:Nat} (o:OpR) (hok:o.ok) (hk:o.kind=12):Step 12 base B o:=by
 intro T M M' σ w h hM hM2
 have z1:(o.kind==1)=false:=beq_eq_false_iff_ne.2 (by rw[hk];decide)
 have z2:(o.kind==2)=false:=beq_eq_false_iff_ne.2 (by rw[hk];decide)
 have z3:(o.kind==3)=false:=beq_eq_false_iff_ne.2 (by rw[hk];decide)
 have z8:(o.kind==8)=false:=beq_eq_false_iff_ne.2 (by rw[hk];decide)
 have z9:(o.kind==9)=false:=beq_eq_false_iff_ne.2 (by rw[hk];decide)
 have z5:(o.kind==5)=false:=beq_eq_false_iff_ne.2 (by rw[hk];decide)
 have z10:(o.kind==10)=false:=beq_eq_false_iff_ne.2 (by rw[hk];decide)
 have z12:(o.kind==12)=true:=beq_iff_eq.2 hk
 have hn:o.kind ∉ [17,4,24,25,18,19,20,21,22,23]:=by rw[hk];decide
 have hlt:w.heap.size<(w.alloc (.cells #[.int .i64 o.kind,.int .i64 o.a,.int .i64 o.b,.int .i64 o.c,.string o.s,.string o.t] 28)).heap.size:=by simp
 have hbx:Blk (w.alloc (.cells #[.int .i64 o.kind,.int .i64 o.a,.int .i64 o.b,.int .i64 o.c,.string o.s,.string o.t] 28)) w.heap.size 28 o.cells:=Blk.new rfl rfl
 have hS:Std base B (M+o.s.size+o.t.size) σ w (w.alloc (.cells #[.int .i64 o.kind,.int .i64 o.a,.int .i64 o.b,.int .i64 o.c,.string o.s,.string o.t] 28)):=(Std.alloc ⟨⟨T,h⟩,Below.refl _ _⟩ _).more (by omega) (by omega)
 have HS:=hide hS
 have HK:=hide hk
 have HN:=hide hn
 have HX:=hide hbx
 clear hS h hk hn hbx
 unfold opV
 go_enter Tryz.func12,Tryz.ntmps12
 go_wp2_with fail
 obtain ⟨⟨T9,hI9⟩,hB9⟩:=HS.out
 refine (owner_other hI9 o hok HN.out (by omega)).mono ?_
 rintro e w2 ⟨rfl,⟨T2,hI2⟩,hb2⟩
 have hx2:=HX.out.below hb2 hlt
 have e0:=hx2.cell (i:=0) (v:=.int .i64 o.kind) rfl
 have e1:=hx2.cell (i:=1) (v:=.int .i64 o.a) rfl
 have e2:=hx2.cell (i:=2) (v:=.int .i64 o.b) rfl
 have e3:=hx2.cell (i:=3) (v:=.int .i64 o.c) rfl
 have e4:=hx2.cell (i:=4) (v:=.string o.s) rfl
 have e5:=hx2.cell (i:=5) (v:=.string o.t) rfl
 have HI2:=hide hI2
 have HB2:=hide (hB9.trans (hb2.mono hI9.bsz))
 clear hI2 hb2 hI9 hB9 HS HX hx2
 generalize w.heap.size=sb at *
 go_wp2_with fail
 refine (made_12 HI2.out o hok HK.out (by omega) hM hM2).mono ?_
 rintro e w5 ⟨rfl,hd⟩
 have HD:=hide (Done.from HB2.out hd)
 clear hd HI2 HB2 e0 e1 e2 e3 e4 e5
 go_wp2
 go_ret
 exact ⟨rfl,HD.out⟩
set_option maxRecDepth 100000 in
set_option maxHeartbeats 800000 in
theorem drive_13 {base B:Nat} (o:OpR) (hok:o.ok) (hk:o.kind=13):Step 12 base B o:=by
 intro T M M' σ w h hM hM2
 have z1:(o.kind==1)=false:=beq_eq_false_iff_ne.2 (by rw[hk];decide)
 have z2:(o.kind==2)=false:=beq_eq_false_iff_ne.2 (by rw[hk];decide)
 have z3:(o.kind==3)=false:=beq_eq_false_iff_ne.2 (by rw[hk];decide)
 have z8:(o.kind==8)=false:=beq_eq_false_iff_ne.2 (by rw[hk];decide)
 have z9:(o.kind==9)=false:=beq_eq_false_iff_ne.2 (by rw[hk];decide)
 have z5:(o.kind==5)=false:=beq_eq_false_iff_ne.2 (by rw[hk];decide)
 have z10:(o.kind==10)=false:=beq_eq_false_iff_ne.2 (by rw[hk];decide)
 have z12:(o.kind==12)=false:=beq_eq_false_iff_ne.2 (by rw[hk];decide)
 have z6:(o.kind==6)=false:=beq_eq_false_iff_ne.2 (by rw[hk];decide)
 have z7:(o.kind==7)=false:=beq_eq_false_iff_ne.2 (by rw[hk];decide)
 have z11:(o.kind==11)=false:=beq_eq_false_iff_ne.2 (by rw[hk];decide)
 have z13:(o.kind==13)=true:=beq_iff_eq.2 hk
 have hn:o.kind ∉ [17,4,24,25,18,19,20,21,22,23]:=by rw[hk];decide
 have hlt:w.heap.size<(w.alloc (.cells #[.int .i64 o.kind,.int .i64 o.a,.int .i64 o.b,.int .i64 o.c,.string o.s,.string o.t] 28)).heap.size:=by simp
 have hbx:Blk (w.alloc (.cells #[.int .i64 o.kind,.int .i64 o.a,.int .i64 o.b,.int .i64 o.c,.string o.s,.string o.t] 28)) w.heap.size 28 o.cells:=Blk.new rfl rfl
 have hS:Std base B (M+o.s.size+o.t.size) σ w (w.alloc (.cells #[.int .i64 o.kind,.int .i64 o.a,.int .i64 o.b,.int .i64 o.c,.string o.s,.string o.t] 28)):=(Std.alloc ⟨⟨T,h⟩,Below.refl _ _⟩ _).more (by omega) (by omega)
 have HS:=hide hS
 have HK:=hide hk
 have HN:=hide hn
 have HX:=hide hbx
 clear hS h hk hn hbx
 unfold opV
 go_enter Tryz.func12,Tryz.ntmps12
 go_wp2_with fail
 obtain ⟨⟨T9,hI9⟩,hB9⟩:=HS.out
 refine (owner_other hI9 o hok HN.out (by omega)).mono ?_
 rintro e w2 ⟨rfl,⟨T2,hI2⟩,hb2⟩
 have hx2:=HX.out.below hb2 hlt
 have e0:=hx2.cell (i:=0) (v:=.int .i64 o.kind) rfl
 have e1:=hx2.cell (i:=1) (v:=.int .i64 o.a) rfl
 have e2:=hx2.cell (i:=2) (v:=.int .i64 o.b) rfl
 have e3:=hx2.cell (i:=3) (v:=.int .i64 o.c) rfl
 have e4:=hx2.cell (i:=4) (v:=.string o.s) rfl
 have e5:=hx2.cell (i:=5) (v:=.string o.t) rfl
 have HI2:=hide hI2
 have HB2:=hide (hB9.trans (hb2.mono hI9.bsz))
 clear hI2 hb2 hI9 hB9 HS HX hx2
 generalize w.heap.size=sb at *
 go_wp2_with fail
 refine (used_13 HI2.out o hok HK.out hM hM2).mono ?_
 rintro e w5 ⟨rfl,hd⟩
 have HD:=hide (Done.from HB2.out hd)
 clear hd HI2 HB2 e0 e1 e2 e3 e4 e5
 go_wp2
 go_ret
 exact ⟨rfl,HD.out⟩
set_option maxRecDepth 100000 in
set_option maxHeartbeats 800000 in
theorem drive_14 {base B:Nat} (o:OpR) (hok:o.ok) (hk:o.kind=14):Step 12 base B o:=by
 intro T M M' σ w h hM hM2
 have z1:(o.kind==1)=false:=beq_eq_false_iff_ne.2 (by rw[hk];decide)
 have z2:(o.kind==2)=false:=beq_eq_false_iff_ne.2 (by rw[hk];decide)
 have z3:(o.kind==3)=false:=beq_eq_false_iff_ne.2 (by rw[hk];decide)
 have z8:(o.kind==8)=false:=beq_eq_false_iff_ne.2 (by rw[hk];decide)
 have z9:(o.kind==9)=false:=beq_eq_false_iff_ne.2 (by rw[hk];decide)
 have z5:(o.kind==5)=false:=beq_eq_false_iff_ne.2 (by rw[hk];decide)
 have z10:(o.kind==10)=false:=beq_eq_false_iff_ne.2 (by rw[hk];decide)
 have z12:(o.kind==12)=false:=beq_eq_false_iff_ne.2 (by rw[hk];decide)
 have z6:(o.kind==6)=false:=beq_eq_false_iff_ne.2 (by rw[hk];decide)
 have z7:(o.kind==7)=false:=beq_eq_false_iff_ne.2 (by rw[hk];decide)
 have z11:(o.kind==11)=false:=beq_eq_false_iff_ne.2 (by rw[hk];decide)
 have z13:(o.kind==13)=false:=beq_eq_false_iff_ne.2 (by rw[hk];decide)
 have z14:(o.kind==14)=true:=beq_iff_eq.2 hk
 have hn:o.kind ∉ [17,4,24,25,18,19,20,21,22,23]:=by rw[hk];decide
 have hlt:w.heap.size<(w.alloc (.cells #[.int .i64 o.kind,.int .i64 o.a,.int .i64 o.b,.int .i64 o.c,.string o.s,.string o.t] 28)).heap.size:=by simp
 have hbx:Blk (w.alloc (.cells #[.int .i64 o.kind,.int .i64 o.a,.int .i64 o.b,.int .i64 o.c,.string o.s,.string o.t] 28)) w.heap.size 28 o.cells:=Blk.new rfl rfl
 have hS:Std base B (M+o.s.size+o.t.size) σ w (w.alloc (.cells #[.int .i64 o.kind,.int .i64 o.a,.int .i64 o.b,.int .i64 o.c,.string o.s,.string o.t] 28)):=(Std.alloc ⟨⟨T,h⟩,Below.refl _ _⟩ _).more (by omega) (by omega)
 have HS:=hide hS
 have HK:=hide hk
 have HN:=hide hn
 have HX:=hide hbx
 clear hS h hk hn hbx
 unfold opV
 go_enter Tryz.func12,Tryz.ntmps12
 go_wp2_with fail
 obtain ⟨⟨T9,hI9⟩,hB9⟩:=HS.out
 refine (owner_other hI9 o hok HN.out (by omega)).mono ?_
 rintro e w2 ⟨rfl,⟨T2,hI2⟩,hb2⟩
 have hx2:=HX.out.below hb2 hlt
 have e0:=hx2.cell (i:=0) (v:=.int .i64 o.kind) rfl
 have e1:=hx2.cell (i:=1) (v:=.int .i64 o.a) rfl
 have e2:=hx2.cell (i:=2) (v:=.int .i64 o.b) rfl
 have e3:=hx2.cell (i:=3) (v:=.int .i64 o.c) rfl
 have e4:=hx2.cell (i:=4) (v:=.string o.s) rfl
 have e5:=hx2.cell (i:=5) (v:=.string o.t) rfl
 have HI2:=hide hI2
 have HB2:=hide (hB9.trans (hb2.mono hI9.bsz))
 clear hI2 hb2 hI9 hB9 HS HX hx2
 generalize w.heap.size=sb at *
 go_wp2_with fail
 refine (used_14 HI2.out o hok HK.out hM hM2).mono ?_
 rintro e w5 ⟨rfl,hd⟩
 have HD:=hide (Done.from HB2.out hd)
 clear hd HI2 HB2 e0 e1 e2 e3 e4 e5
 go_wp2
 go_ret
 exact ⟨rfl,HD.out⟩
end Go.Proofs.YtmjekklgefdolaaGreatDoor
namespace Go.Proofs.YtmjekklgefdolaaGreatDoor
open Go.ChangeShapes Go.WideShapes Go.ChangeAt Go.RowKit Go.Deep
def placesKinds:List Int:=[12,13,14]
set_option maxRecDepth 100000 in
set_option maxHeartbeats 800000 in
theorem places_any (v:Value) (l:List OpR) (w:World) (hv:Script w v l) (hk:KTab w) (hh:HTab w) (h2:2≤w.heap.size) (hok:∀ p ∈ l,p.ok) (hl:l.length≤1152921504606846976):
  Calls Tryz.prog 5 #[v] w fun e w'=>e = .returned (.bool true)∧Below w.heap.size w w':=by
 have hb:Below w.heap.size w (w.alloc (.cells (intV placesKinds).toArray 3)):=(Below.refl _ _).alloc (Nat.le_refl _) _
 have HPL:=hide (plays_any v l placesKinds w.heap.size (w.alloc (.cells (intV placesKinds).toArray 3)) (hv.alloc _) (Kinds.new _ _) (by decide) (hk.below hb h2) (hh.below hb h2) (Nat.le_trans h2 hb.size) hok hl
  (fun b o ho hkp h50=>by
   have h:=kept_call hkp (by omega)
   simp[placesKinds] at h
   omega)
  (fun b o ho hkp h30 h50=>by
   have h:=kept_call hkp h30
   simp[placesKinds] at h
   omega)
  (fun b o ho hkp h30=>by
   rcases Bool.or_eq_true_iff.1 hkp with h0 | h0
   ·exact own_steps [] (by simp) b o ho (Bool.or_eq_true_iff.2 (.inl h0)) h30
   ·have h:o.kind ∈ placesKinds:=by simpa using h0
    simp[placesKinds] at h
    rcases h with h | h | h
    ·exact drive_12 o ho h
    ·exact drive_13 o ho h
    ·exact drive_14 o ho h))
 have HB:=hide hb
 clear hv hk hh h2 hok hl hb
 go_enter Tryz.func5,Tryz.ntmps5
 go_wp2_with fail
 refine HPL.out.mono ?_
 rintro e w' ⟨rfl,hb'⟩
 have HF:=hide (HB.out.trans (hb'.mono HB.out.size))
 clear hb'
 go_wp2
 go_ret
 exact ⟨rfl,HF.out⟩
set_option maxRecDepth 100000 in
theorem places_contract (H:Type) (enc:TypeId × Value→H) (W:World) (base:Nat) (args:Array Value) (ds gs:List (DataW H)) (before:List MemPlace)
  (hval:∀ (j:Nat) t v,Tryz.f5.params[j]? = some t→args[j]? = some v→Value.okWide Tryz.prog W .any base t v)
  (hW:DataW.Whole enc Tryz.prog Tryz.f5.params.toList Rows.placesSpec.vars false W args.toList ds gs before)
  (hz:∀ n ∈ DataW.weightsEach Tryz.prog Tryz.f5.params.toList (ds++gs),n≤reachBytes) (hL:laidMetH Tryz.prog Rows.placesRow.laid W):
  Calls Tryz.prog 5 args W fun e W'=>∃ v,e = .returned v∧Rows.placesSpec.post enc Tryz.prog Tryz.f5 false true false false W args v W':=by
 have hW':=hW
 obtain ⟨p,q,hA0,hV,rfl,hfz,hnd⟩:=hW
 have hA:DataW.TrodAll enc Tryz.prog W 0 (fun _=>true) true Tryz.f5.params.toList args.toList ds p:=hA0
 rw[Tryz.params5] at hA hval hz
 obtain ⟨v0,d0,rfl,rfl,h0⟩:=trodAll_one hA
 obtain ⟨rfl,rfl⟩:=trodVars_none hV
 obtain ⟨a0,len,cap,rfl⟩:=okWide_slice Tryz.underlying22 (hval 0 22 v0 rfl rfl)
 clear hA0 hfz hnd
 simp only[List.append_nil] at hW'
 have hlt:∀ x ∈ p,x.block<W.heap.size:=fun x hx=>by simpa using hW'.lt x hx
 obtain ⟨l,hS,hok,hl⟩:=open_script h0 (fun n hn=>hz n (DataW.weights_mem_each (j:=0) rfl rfl n hn))
 obtain ⟨hh,hk⟩:=tabs2 hL
 have h2:2≤W.heap.size:=World.block_lt_of_cell? W _ (hk 0 (by decide))
 refine (places_any _ l W hS hk hh h2 hok hl).mono fun e W' ⟨he,hb⟩=>?_
 subst he
 refine ⟨_,rfl,_,_,_,[],p,[],hW',?_,trodAll_mk1 (Below.trod laidOut (by kernel_rfl) (of_decide_eq_true (by kernel_rfl)) h0 hb hlt),rfl,hb.frame _,fun h=>by cases h⟩
 exact trodAll_mk1 (shut_bool Tryz.underlying4 _)
theorem places_laid_met (os:Os):laidMet Tryz.prog Rows.placesRow.laid ((laidWorld Tryz.prog os).forCall (fun _ _=>0) ⟨#[],#[.slice none 0 0],[]⟩).memory:=
 laidMet_of_run' 8 (by kernel_rfl) (by kernel_rfl)
theorem places_reads (os:Os) {H:Type} (enc:TypeId × Value→H):∃ places,DataW.whole enc Tryz.prog ((laidWorld Tryz.prog os).forCall (fun _ _=>0) ⟨#[],#[.slice none 0 0],[]⟩).memory Tryz.f5.params.toList Rows.placesSpec.vars false #[Value.slice none 0 0].toList 8=some ([.nil],[],places):=
 ⟨[],by kernel_rfl⟩
set_option maxRecDepth 100000 in
theorem places_lifted (os:Os) (started:os.Started) (H:Type) (enc:TypeId × Value→H) (F:Stop.Interp):
  ReturnsInHanded {} Tryz.checked os 5 .any ((OpenSpec.ofChange Rows.placesSpec).preRow enc Tryz.prog Tryz.f5 Rows.placesRow.domain false Rows.placesRow.laid) (((OpenSpec.ofChange Rows.placesSpec).at F).post enc Tryz.prog Tryz.f5 false true false false):=by
 obtain ⟨places,hx⟩:=places_reads os enc
 refine returnsInHanded_of_row (C:=Tryz.checked) (s:=OpenSpec.ofChange Rows.placesSpec) own started (by kernel_rfl) Tryz.func5
  (witness_row_at (enc:=enc) (C:=Tryz.checked) false (laidWorld Tryz.prog os) #[.slice none 0 0] rfl (by kernel_rfl) (by kernel_rfl) (by kernel_rfl)
   (OpenSpec.preRow_of_cond 8 hx (by kernel_rfl) (fun k hk=>by cases hk) (by kernel_rfl) (places_laid_met os))) ?_
 intro W base args ds gs before hval hW _ _ hz hL _ _
 have hz':∀ n ∈ DataW.weightsEach Tryz.prog Tryz.f5.params.toList (ds++gs),n≤reachBytes:=by
  have hz2:(DataW.weightsEach Tryz.prog Tryz.f5.params.toList (ds++gs)).all (·≤reachBytes)=true:=hz
  intro n hn
  simpa using List.all_eq_true.1 hz2 n hn
 exact places_contract H enc W base args ds gs before hval hW hz' hL
theorem places_j1:Tryz.prog.inPlace 5=Rows.placesRow.inPlace:=by kernel_rfl
theorem places_j2:Tryz.prog.unfollowed 5=Rows.placesRow.unfollowed:=by kernel_rfl
theorem places_j3:Tryz.prog.recurses 5=Rows.placesRow.recurses:=by kernel_rfl
theorem places_j4:Tryz.prog.varsNamed 5=Rows.placesRow.named:=by kernel_rfl
theorem places_j:joinedFacts Tryz.prog 5 Tryz.f5 (OpenSpec.ofChange Rows.placesSpec).bare Rows.placesRow=true:=by
 unfold joinedFacts
 rw[places_j1,places_j2,places_j3,places_j4]
 kernel_rfl
theorem places_said:Rows.PlacesSaid:=
 OpenClaim.holds_of_cond 5 Tryz.f5 rfl rfl rfl rfl rfl rfl rfl ⟨rfl,rfl,rfl,rfl,rfl⟩ rfl rfl rfl rfl rfl (by kernel_rfl) Tryz.func5 places_j
  (of_decide_eq_true (by kernel_rfl)) (by unfold Func.isWrapper;first | (rw[if_pos (by decide +kernel)];kernel_rfl) | (rw[if_neg (by decide +kernel)];exact ⟨rfl,rfl⟩))
  (fun os started H enc _ F=>by rw[OpenClaim.pre_eq_preRow];exact places_lifted os started H enc F)
theorem places_plain (f : FuncId) (fn : Func) (hf : Tryz.pinned.checked.prog.funcNamed "strongbox/strongboxlaw.Places" = some f) (hfn : Tryz.pinned.checked.prog.funcs[f]? = some fn) :
  false = Tryz.pinned.checked.prog.looks []∧∀ (j:Nat) t,fn.params[j]? = some t→Tryz.pinned.checked.prog.wantsStandIn t=false:=by
 obtain rfl : f = 5 := Option.some.inj ((show Tryz.prog.funcNamed "strongbox/strongboxlaw.Places" = some 5 by kernel_rfl).symm.trans hf) |>.symm
 obtain rfl:fn = Tryz.f5:=(Option.some.inj (Tryz.func5.symm.trans hfn)).symm
 refine ⟨by kernel_rfl,fun j t ht=>?_⟩
 rw[Tryz.params5] at ht
 obtain rfl:t=22:=by simpa using Array.mem_of_getElem? ht
 exact (show Tryz.prog.wantsStandIn 22=false by kernel_rfl)
theorem places_card:Rows.PlacesCardSaid:=
 Claim7.holds_tied_plain_at .later [] _ _ _ _ places_said (fun _ h=>by cases h) (by kernel_rfl) (fun _ h=>by cases h) places_row_tie rfl ⟨rfl,rfl⟩ (by kernel_rfl) rfl places_plain (by kernel_rfl)
end Go.Proofs.YtmjekklgefdolaaGreatDoor
