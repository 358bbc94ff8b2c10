import Derived.Test.YtmjekklgefdolaaGreatDoorWr3
namespace Go.Proofs.YtmjekklgefdolaaGreatDoor
open Go.RowKit
namespace Dig
theorem take_lt {l:List Nat} (h:Ok l) (i:Nat):val (l.take i)<256 ^ i:=by
 have h1:Ok (l.take i):=fun d hd=>h d (List.mem_of_mem_take hd)
 have h2:=h1.lt
 have h3:256 ^ (l.take i).length≤256 ^ i:=Nat.pow_le_pow_right (by decide) (by simp;omega)
 omega
theorem less_part {A B a b P x y:Nat} (hd:A+(b+P*y)=B+(a+P*x)) (ha:a<P) (hb:b<P) (hxy:x≠y):decide (A<B)=decide (x<y):=by
 rcases Nat.lt_or_gt_of_ne hxy with h | h
 ·have h1:P*(x+1)≤P*y:=Nat.mul_le_mul_left _ h
  rw[Nat.mul_add,Nat.mul_one] at h1
  rw[decide_eq_true h,decide_eq_true (by omega)]
 ·have h1:P*(y+1)≤P*x:=Nat.mul_le_mul_left _ h
  rw[Nat.mul_add,Nat.mul_one] at h1
  rw[decide_eq_false (show ¬ x<y by omega),decide_eq_false (by omega)]
theorem val_split (l:List Nat) (i:Nat):∃ r,val l=val (l.take i)+256 ^ i*r:=by
 by_cases h:i≤l.length
 ·refine ⟨val (l.drop i),?_⟩
  conv=>lhs;rw[←List.take_append_drop i l]
  rw[val_append,List.length_take,Nat.min_eq_left h]
 ·exact ⟨0,by rw[List.take_of_length_le (by omega)];simp⟩
end Dig
set_option maxRecDepth 100000 in
set_option maxHeartbeats 1600000 in
theorem natLess_any (va vb:Value) (la lb:List Nat) (w:World) (ha:Digs w va la) (hb:Digs w vb lb) (oa:Dig.Ok la) (ob:Dig.Ok lb) (hla:la.length≤1000) (hlb:lb.length≤1000):
  Calls Tryz.prog 169 #[va,vb] w fun e w'=>e = .returned (.bool (decide (Dig.val la<Dig.val lb)))∧w'=w:=by
 have DA:=hide (fun i=>digit_any va la i w ha)
 have DB:=hide (fun i=>digit_any vb lb i w hb)
 obtain ⟨aoa,ca,rfl,_,_,_⟩:=ha
 obtain ⟨aob,cb,rfl,_,_,_⟩:=hb
 have VA:=hide (Dig.val_take la)
 have VB:=hide (Dig.val_take lb)
 have TA:=hide (Dig.take_lt oa)
 have TB:=hide (Dig.take_lt ob)
 have XA:=hide (fun i=>oa.at i)
 have XB:=hide (fun i=>ob.at i)
 have S0:=hide (show Dig.val la+Dig.val (lb.take (max la.length lb.length))=Dig.val lb+Dig.val (la.take (max la.length lb.length)) by rw[Dig.val_all lb _ (by omega),Dig.val_all la _ (by omega)];omega)
 have Z0:=hide (show Dig.val (la.take 0)=0∧Dig.val (lb.take 0)=0 from ⟨rfl,rfl⟩)
 generalize la.length=na at *
 generalize lb.length=nb at *
 clear oa ob
 obtain ⟨n,hn⟩:∃ n:Nat,n=max na nb:=⟨_,rfl⟩
 rw[←hn] at S0
 have HN:=hide hn
 clear hn
 by_cases hcmp:na<nb
 ·have j1:(na:Int)<(nb:Int):=by omega
  have hnn:nb=n:=by have:=HN.out;omega
  subst hnn
  go_enter Tryz.func169,Tryz.ntmps169
  go_wp2
  go_loop [6] (fun vi=>∃ m:Nat,m≤nb∧((m=0∧vi = .int .i64 (-1))∨∃ q:Nat,m=q+1∧vi = .int .i64 (q:Nat))∧Dig.val la+Dig.val (lb.take m)=Dig.val lb+Dig.val (la.take m)) (fun i=>(intOf i+1).toNat)
  case atStart=>
   refine ⟨nb,Nat.le_refl _,?_,S0.out⟩
   rcases Nat.eq_zero_or_pos nb with h0 | h0
   ·exact .inl ⟨h0,by rw[h0];rfl⟩
   ·exact .inr ⟨nb-1,by omega,by congr 1;omega⟩
  case round=>
   obtain ⟨m,hm,hvi,heq⟩:=hrel
   rcases hvi with ⟨rfl,rfl⟩ | ⟨q,rfl,rfl⟩
   ·have HF:=hide (show decide (Dig.val la<Dig.val lb)=false from decide_eq_false (by rw[Z0.out.1,Z0.out.2] at heq;omega))
    clear heq
    go_wp2
    go_ret
    rw[HF.out]
    exact ⟨rfl,rfl⟩
   ·have hq:q≤1000:=by omega
    rw[VA.out q,VB.out q] at heq
    have xa:=XA.out q
    have xb:=XB.out q
    have DA2:=hide (DA.out q)
    have DB2:=hide (DB.out q)
    have ta:=TA.out q
    have tb:=TB.out q
    by_cases hxy:la.getD q 0=lb.getD q 0
    ·have HEQ:=hide (show Dig.val la+Dig.val (lb.take q)=Dig.val lb+Dig.val (la.take q) by rw[hxy] at heq;omega)
     rw[hxy] at DA2
     generalize lb.getD q 0=x at *
     clear heq hxy ta tb
     have z1:((x:Int) != (x:Int))=false:=by simp
     go_wp2_with fail
     refine DA2.out.mono ?_
     rintro e w1 ⟨rfl,rfl⟩
     go_wp2_with fail
     refine DB2.out.mono ?_
     rintro e w1 ⟨rfl,rfl⟩
     go_wp2
     go_round
     case rel=>
      refine ⟨q,by omega,?_,HEQ.out⟩
      rcases Nat.eq_zero_or_pos q with h0 | h0
      ·exact .inl ⟨h0,by rw[h0];rfl⟩
      ·exact .inr ⟨q-1,by omega,by congr 1;omega⟩
     case measure=>simp[intOf]
    ·have HF:=hide (Dig.less_part heq ta tb hxy)
     generalize lb.getD q 0=y at *
     generalize la.getD q 0=x at *
     have z1:((x:Int) != (y:Int))=true:=by rw[bne_iff_ne];omega
     clear heq ta tb
     by_cases hlt:x<y
     ·have z2:(x:Int)<(y:Int):=by omega
      go_wp2_with fail
      refine DA2.out.mono ?_
      rintro e w1 ⟨rfl,rfl⟩
      go_wp2_with fail
      refine DB2.out.mono ?_
      rintro e w1 ⟨rfl,rfl⟩
      go_wp2
      go_ret
      rw[HF.out,decide_eq_true hlt]
      exact ⟨rfl,rfl⟩
     ·have z2:¬ (x:Int)<(y:Int):=by omega
      go_wp2_with fail
      refine DA2.out.mono ?_
      rintro e w1 ⟨rfl,rfl⟩
      go_wp2_with fail
      refine DB2.out.mono ?_
      rintro e w1 ⟨rfl,rfl⟩
      go_wp2
      go_ret
      rw[HF.out,decide_eq_false hlt]
      exact ⟨rfl,rfl⟩
 ·have j1:¬ (na:Int)<(nb:Int):=by omega
  have hnn:na=n:=by have:=HN.out;omega
  subst hnn
  go_enter Tryz.func169,Tryz.ntmps169
  go_wp2
  go_loop [6] (fun vi=>∃ m:Nat,m≤na∧((m=0∧vi = .int .i64 (-1))∨∃ q:Nat,m=q+1∧vi = .int .i64 (q:Nat))∧Dig.val la+Dig.val (lb.take m)=Dig.val lb+Dig.val (la.take m)) (fun i=>(intOf i+1).toNat)
  case atStart=>
   refine ⟨na,Nat.le_refl _,?_,S0.out⟩
   rcases Nat.eq_zero_or_pos na with h0 | h0
   ·exact .inl ⟨h0,by rw[h0];rfl⟩
   ·exact .inr ⟨na-1,by omega,by congr 1;omega⟩
  case round=>
   obtain ⟨m,hm,hvi,heq⟩:=hrel
   rcases hvi with ⟨rfl,rfl⟩ | ⟨q,rfl,rfl⟩
   ·have HF:=hide (show decide (Dig.val la<Dig.val lb)=false from decide_eq_false (by rw[Z0.out.1,Z0.out.2] at heq;omega))
    clear heq
    go_wp2
    go_ret
    rw[HF.out]
    exact ⟨rfl,rfl⟩
   ·have hq:q≤1000:=by omega
    rw[VA.out q,VB.out q] at heq
    have xa:=XA.out q
    have xb:=XB.out q
    have DA2:=hide (DA.out q)
    have DB2:=hide (DB.out q)
    have ta:=TA.out q
    have tb:=TB.out q
    by_cases hxy:la.getD q 0=lb.getD q 0
    ·have HEQ:=hide (show Dig.val la+Dig.val (lb.take q)=Dig.val lb+Dig.val (la.take q) by rw[hxy] at heq;omega)
     rw[hxy] at DA2
     generalize lb.getD q 0=x at *
     clear heq hxy ta tb
     have z1:((x:Int) != (x:Int))=false:=by simp
     go_wp2_with fail
     refine DA2.out.mono ?_
     rintro e w1 ⟨rfl,rfl⟩
     go_wp2_with fail
     refine DB2.out.mono ?_
     rintro e w1 ⟨rfl,rfl⟩
     go_wp2
     go_round
     case rel=>
      refine ⟨q,by omega,?_,HEQ.out⟩
      rcases Nat.eq_zero_or_pos q with h0 | h0
      ·exact .inl ⟨h0,by rw[h0];rfl⟩
      ·exact .inr ⟨q-1,by omega,by congr 1;omega⟩
     case measure=>simp[intOf]
    ·have HF:=hide (Dig.less_part heq ta tb hxy)
     generalize lb.getD q 0=y at *
     generalize la.getD q 0=x at *
     have z1:((x:Int) != (y:Int))=true:=by rw[bne_iff_ne];omega
     clear heq ta tb
     by_cases hlt:x<y
     ·have z2:(x:Int)<(y:Int):=by omega
      go_wp2_with fail
      refine DA2.out.mono ?_
      rintro e w1 ⟨rfl,rfl⟩
      go_wp2_with fail
      refine DB2.out.mono ?_
      rintro e w1 ⟨rfl,rfl⟩
      go_wp2
      go_ret
      rw[HF.out,decide_eq_true hlt]
      exact ⟨rfl,rfl⟩
     ·have z2:¬ (x:Int)<(y:Int):=by omega
      go_wp2_with fail
      refine DA2.out.mono ?_
      rintro e w1 ⟨rfl,rfl⟩
      go_wp2_with fail
      refine DB2.out.mono ?_
      rintro e w1 ⟨rfl,rfl⟩
      go_wp2
      go_ret
      rw[HF.out,decide_eq_false hlt]
      exact ⟨rfl,rfl⟩
theorem minus_step {A B O P c x y d c':Nat} (h:A+P*c=O+B) (hd:x+256*c'=d+y+c):A+P*x+P*256*c'=O+P*d+(B+P*y):=by
 have h1:P*(x+256*c')=P*(d+y+c):=by rw[hd]
 rw[Nat.mul_add,Nat.mul_add,Nat.mul_add,←Nat.mul_assoc] at h1
 omega
theorem minus_end {A B b O P c r:Nat} (h:A+P*c=O+b) (hO:O<P) (hB:B=b+P*r) (hle:B≤A) (hc:c≤1):O=A-B:=by
 have hc0:c=0:=by
  rcases Nat.eq_zero_or_pos c with h0 | h0
  ·exact h0
  ·have:c=1:=by omega
   subst this
   rw[Nat.mul_one] at h
   have:b≤B:=by rw[hB];exact Nat.le_add_right _ _
   omega
 subst hc0
 rw[Nat.mul_zero,Nat.add_zero] at h
 have hr:r=0:=by
  rcases Nat.eq_zero_or_pos r with h0 | h0
  ·exact h0
  ·have h1:P*1≤P*r:=Nat.mul_le_mul_left _ h0
   omega
 subst hr
 rw[Nat.mul_zero,Nat.add_zero] at hB
 omega
set_option maxRecDepth 100000 in
set_option maxHeartbeats 1600000 in
theorem natMinus_any (va vb:Value) (la lb:List Nat) (w:World) (ha:Digs w va la) (hb:Digs w vb lb) (oa:Dig.Ok la) (ob:Dig.Ok lb) (hla:la.length≤1000) (hle:Dig.val lb≤Dig.val la):
  Calls Tryz.prog 170 #[va,vb] w fun e w'=>∃ v,e = .returned v∧∃ l,w'.ownsRow w.heap.size 3 1 v l.length (i64V l)∧Dig.Ok l∧Dig.val l=Dig.val la-Dig.val lb∧l.length=la.length∧Below w.heap.size w w':=by
 have HA:=hide ha
 have HB:=hide hb
 obtain ⟨aoa,ca,rfl,hca1,hca2,_⟩:=ha
 obtain ⟨aob,cb,rfl,_,_,_⟩:=hb
 unfold maxLen at hca2
 have OA:=hide oa
 have OB:=hide ob
 have VA:=hide (Dig.val_take la)
 have VB:=hide (Dig.val_take lb)
 have WA:=hide (Dig.val_all la)
 have HLE:=hide hle
 generalize hna:la.length=na at *
 have HNA:=hide hna
 clear oa ob hna hle
 go_enter Tryz.func170,Tryz.ntmps170
 go_wp2
 go_loopw [5,6,7] (fun vo vc vi wr=>∃ (i c:Nat) (l:List Nat),i≤na∧vi = .int .i64 (i:Nat)∧vc = .int .i64 (c:Nat)∧c≤1∧l.length=i∧Dig.Ok l∧Dig.val (la.take i)+256 ^ i*c=Dig.val l+Dig.val (lb.take i)∧wr.ownsRow w.heap.size 3 1 vo i (i64V l)∧Below w.heap.size w wr) (fun _ _ i _=>na-(intOf i).toNat)
 case atStart=>exact ⟨0,0,[],by omega,rfl,rfl,by omega,rfl,(fun d hd=>by simp at hd),rfl,World.ownsRow_nil _ _ _ _,Below.refl _ _⟩
 case round=>
  obtain ⟨i,c,l,hi,rfl,rfl,hc,hl,hok,hval,hown,hbe⟩:=hrel
  by_cases hlt:i<na
  ·have DB:=hide (digit_any _ lb i wr (HB.out.below hbe))
   obtain ⟨_,_,hda,_,_,hcella⟩:=HA.out.below hbe
   injection hda with e1 f1 f2
   subst e1
   clear f1 f2
   obtain ⟨ga,offa,rfl,ca0⟩:=hcella i (by rw[HNA.out];exact hlt)
   have xa:=OA.out.at i
   have xb:=OB.out.at i
   have VA2:=hide (VA.out i)
   have VB2:=hide (VB.out i)
   generalize la.getD i 0=x at *
   generalize lb.getD i 0=y at *
   have HOWN:=hide hown
   have HBE:=hide hbe
   have HOK:=hide hok
   have HL:=hide hl
   have hsz:=hbe.size
   have j1:(i:Int)<(na:Int):=by omega
   have HVAL:=hide hval
   have HSN:=hide (fun d=>Dig.val_snoc l d)
   rw[hl] at HSN
   clear hval hok hl hown hbe hcella
   by_cases hneg:x<y+c
   ·obtain ⟨d,hd⟩:∃ d:Nat,d=x+256-y-c:=⟨_,rfl⟩
    have hd256:d<256:=by omega
    have HST:=hide (minus_step (c':=1) (x:=x) (y:=y) (d:=d) HVAL.out (by omega))
    have z1:(x:Int)-(y:Int)-(c:Int)<0:=by omega
    have z2:(x:Int)-(y:Int)-(c:Int)+256=(d:Int):=by omega
    clear hd
    go_wp2_with fail
    refine DB.out.mono ?_
    rintro e w1 ⟨rfl,rfl⟩
    go_wp2_with (at_builtin;refine wpList_append_int rfl (.tmp 31) (.tmp 33) rfl w.heap.size _ i _ rfl (HOWN.out.alloc _) w1.heap.size _ rfl (World.cell?_alloc_at _ _ _ _ rfl) ?_ ?_ ?_;omega;(simp;omega);intro v1 w2 hown1 hg1)
    go_roundw
    case rel=>
     refine ⟨i+1,1,l++[d],by omega,by first | rfl | go_num,by first | rfl | go_num,by omega,by simp[HL.out],HOK.out.snoc hd256,?_,by simpa [i64V] using hown1,Below.grown (HBE.out.alloc hsz _) hg1 (by simp;omega) (fun k hk=>(HOWN.out.lt k hk).1)⟩
     rw[HSN.out,VA2.out,VB2.out,Nat.pow_succ]
     exact HST.out
    case measure=>simp[intOf];omega
   ·obtain ⟨d,hd⟩:∃ d:Nat,d=x-y-c:=⟨_,rfl⟩
    have hd256:d<256:=by omega
    have HST:=hide (minus_step (c':=0) (x:=x) (y:=y) (d:=d) HVAL.out (by omega))
    have z1:¬ (x:Int)-(y:Int)-(c:Int)<0:=by omega
    have z2:(x:Int)-(y:Int)-(c:Int)=(d:Int):=by omega
    clear hd
    go_wp2_with fail
    refine DB.out.mono ?_
    rintro e w1 ⟨rfl,rfl⟩
    go_wp2_with (at_builtin;refine wpList_append_int rfl (.tmp 31) (.tmp 33) rfl w.heap.size _ i _ rfl (HOWN.out.alloc _) w1.heap.size _ rfl (World.cell?_alloc_at _ _ _ _ rfl) ?_ ?_ ?_;omega;(simp;omega);intro v1 w2 hown1 hg1)
    go_roundw
    case rel=>
     refine ⟨i+1,0,l++[d],by omega,by first | rfl | go_num,by first | rfl | go_num,by omega,by simp[HL.out],HOK.out.snoc hd256,?_,by simpa [i64V] using hown1,Below.grown (HBE.out.alloc hsz _) hg1 (by simp;omega) (fun k hk=>(HOWN.out.lt k hk).1)⟩
     rw[HSN.out,VA2.out,VB2.out,Nat.pow_succ]
     exact HST.out
    case measure=>simp[intOf];omega
  ·have hin:i=na:=by omega
   obtain ⟨r,hr⟩:=Dig.val_split lb i
   have HF:=hide (show Dig.val l=Dig.val la-Dig.val lb from minus_end (by rw[WA.out i (by omega)] at hval;exact hval) (by rw[←hl];exact hok.lt) hr HLE.out hc)
   have HOWN:=hide hown
   have HBE:=hide hbe
   have HOK:=hide hok
   have HL:=hide hl
   have j1:¬ (i:Int)<(na:Int):=by omega
   have HIN:=hide hin
   clear hval hok hl hown hbe hr hin
   go_wp2
   go_ret
   exact ⟨_,rfl,l,by rw[HL.out];exact HOWN.out,HOK.out,HF.out,by rw[HL.out,HIN.out],HBE.out⟩
theorem Digs.take {w:World} {g o n cap k:Nat} {l:List Nat} (h:Digs w (.slice (some ⟨g,o,none⟩) n cap) l) (hn:l.length=n) (hk:k≤n):Digs w (.slice (some ⟨g,o,none⟩) k cap) (l.take k):=by
 obtain ⟨ao,cap',h1,h2,h3,h4⟩:=h
 injection h1 with e1 e2 e3
 subst e1 e3
 have hl:(l.take k).length=k:=by simp;omega
 refine ⟨_,cap,by rw[hl],by omega,h3,fun i hi=>?_⟩
 obtain ⟨g',o',e4,e5⟩:=h4 i (by omega)
 refine ⟨g',o',e4,?_⟩
 rw[e5,List.getD_eq_getElem?_getD,List.getD_eq_getElem?_getD,List.getElem?_take,if_pos (by omega)]
set_option maxRecDepth 100000 in
set_option maxHeartbeats 800000 in
theorem natTrim_any (v:Value) (l:List Nat) (w:World) (h:Digs w v l) (h0:0<l.length) (hl:l.length≤1000):
  Calls Tryz.prog 171 #[v] w fun e w'=>(∃ v',e = .returned v'∧∃ k,k≤l.length∧Digs w v' (l.take k)∧Dig.val (l.take k)=Dig.val l∧(k=0∨256 ^ (k-1)≤Dig.val l))∧w'=w:=by
 have HH:=hide h
 obtain ⟨ao,cap,rfl,hc1,hc2,hcell⟩:=h
 unfold maxLen at hc2
 obtain ⟨g,o,rfl,_⟩:=hcell 0 h0
 have HC:=hide (show ∀ i,i<l.length→w.cell? ⟨g,o+i,none⟩=some (.int .i64 ((l.getD i 0:Nat):Int)) from fun i hi=>by
  obtain ⟨g',o',e1,e2⟩:=hcell i hi
  injection e1 with e1
  injection e1 with e3 e4 _
  subst e3 e4
  exact e2)
 have VT:=hide (Dig.val_take l)
 have W0:=hide (Dig.val_all l _ (Nat.le_refl _))
 have TK:=hide (fun k (hk:k≤l.length)=>HH.out.take rfl hk)
 generalize l.length=n at *
 clear hcell HH
 go_enter Tryz.func171,Tryz.ntmps171
 go_wp2
 go_loop [3] (fun vk=>∃ k:Nat,k≤n∧vk = .int .i64 (k:Nat)∧Dig.val (l.take k)=Dig.val l) (fun k=>(intOf k).toNat)
 case atStart=>exact ⟨n,Nat.le_refl _,rfl,W0.out⟩
 case round=>
  obtain ⟨k,hk,rfl,hval⟩:=hrel
  have jc:k≤cap:=by omega
  rcases Nat.eq_zero_or_pos k with hk0 | hk0
  ·subst hk0
   have TK2:=hide (TK.out 0 (by omega))
   have HVAL:=hide hval
   clear hval
   go_wp2
   go_ret
   exact ⟨⟨_,rfl,0,by omega,TK2.out,HVAL.out,.inl rfl⟩,rfl⟩
  ·obtain ⟨q,hq⟩:∃ q:Nat,k=q+1:=⟨k-1,by omega⟩
   have c0:=HC.out q (by omega)
   have hv2:=VT.out q
   rw[←hq] at hv2
   have qk:(k:Int)-1=(q:Int):=by omega
   have qw:IntKind.i64.wrap ((k:Int)-1)=(q:Int):=(IntWalk.i64_in _ (by omega)).trans (by omega)
   have jq:(q:Int)<(n:Int):=by omega
   have TK2:=hide (TK.out k hk)
   by_cases hd:l.getD q 0=0
   ·have HVAL:=hide (show Dig.val (l.take q)=Dig.val l by rw[hd,Nat.mul_zero,Nat.add_zero] at hv2;rw[←hv2];exact hval)
    rw[hd] at c0
    have HQ:=hide hq
    clear hv2 hval hq hd
    go_wp2
    go_round
    case rel=>exact ⟨q,by have:=HQ.out;omega,by first | rfl | go_num,HVAL.out⟩
    case measure=>have:=HQ.out;simp[intOf];omega
   ·have hge:256 ^ (k-1)≤Dig.val l:=by
     rw[←hval,hv2,show k-1=q by omega]
     have:256 ^ q*1≤256 ^ q*l.getD q 0:=Nat.mul_le_mul_left _ (by omega)
     omega
    have HGE:=hide hge
    have HVAL:=hide hval
    have hz:((l.getD q 0:Nat):Int)≠0:=by omega
    generalize l.getD q 0=d at *
    have z1:((d:Int)==0)=false:=beq_eq_false_iff_ne.2 hz
    clear hv2 hval hq hd hge hz
    go_wp2
    go_ret
    exact ⟨⟨_,rfl,k,hk,TK2.out,HVAL.out,.inr HGE.out⟩,rfl⟩
theorem bit_step (D x b:Nat) (h:b≤7):2*(D*2 ^ (8-(b+1))+x/2 ^ (b+1))+x/2 ^ b%2=D*2 ^ (8-b)+x/2 ^ b:=by
 rcases (show b=0∨b=1∨b=2∨b=3∨b=4∨b=5∨b=6∨b=7 by omega) with rfl | rfl | rfl | rfl | rfl | rfl | rfl | rfl <;> simp <;> omega
theorem mod_twice {Q M bit r:Nat} (hM:0<M) (hb:bit≤1) (hr:r=Q%M):(2*r+bit<M→2*r+bit=(2*Q+bit)%M)∧(¬ 2*r+bit<M→2*r+bit-M=(2*Q+bit)%M):=by
 have h1:=Nat.mod_add_div Q M
 have h2:r<M:=by rw[hr];exact Nat.mod_lt _ hM
 have h3:(2*Q+bit)%M=(2*r+bit)%M:=by
  rw[←h1,←hr,show 2*(r+M*(Q/M))+bit=2*r+bit+M*(2*(Q/M)) by rw[Nat.mul_add,←Nat.mul_assoc,←Nat.mul_assoc,Nat.mul_comm 2 M];omega,Nat.add_mul_mod_self_left]
 refine ⟨fun h=>?_,fun h=>?_⟩
 ·rw[h3,Nat.mod_eq_of_lt h]
 ·rw[h3,Nat.mod_eq_sub_mod (by omega),Nat.mod_eq_of_lt (by omega)]
theorem trim_len {k n v M:Nat} (h:k=0∨256 ^ (k-1)≤v) (hv:v<M) (hM:M<256 ^ n):k≤n:=by
 rcases h with h | h
 ·omega
 ·rcases Nat.lt_or_ge n k with hlt | hge
  ·have:256 ^ n≤256 ^ (k-1):=Nat.pow_le_pow_right (by decide) (by omega)
   omega
  ·exact hge
theorem Dig.val_drop (l:List Nat) (i:Nat) (h:i<l.length):Dig.val (l.drop i)=l.getD i 0+256*Dig.val (l.drop (i+1)):=by
 rw[List.drop_eq_getElem_cons h,List.getD_eq_getElem?_getD,List.getElem?_eq_getElem h]
 rfl
theorem Dig.Ok.take {l:List Nat} (h:Dig.Ok l) (i:Nat):Dig.Ok (l.take i):=fun d hd=>h d (List.mem_of_mem_take hd)
set_option maxRecDepth 100000 in
set_option maxHeartbeats 1600000 in
theorem natMod_any (va vm:Value) (la lm:List Nat) (w:World) (ha:Digs w va la) (hm:Digs w vm lm) (oa:Dig.Ok la) (om:Dig.Ok lm) (hla:la.length≤900) (hlm:lm.length≤900) (hpos:0<Dig.val lm):
  Calls Tryz.prog 115 #[va,vm] w fun e w'=>∃ v,e = .returned v∧∃ l,Digs w' v l∧Dig.Ok l∧Dig.val l=Dig.val la%Dig.val lm∧l.length≤lm.length∧Below w.heap.size w w':=by
 have HA:=hide ha
 have HM:=hide hm
 obtain ⟨aoa,ca,rfl,hca1,hca2,_⟩:=ha
 obtain ⟨aom,cm,rfl,_,_,_⟩:=hm
 unfold maxLen at hca2
 have OA:=hide oa
 have OM:=hide om
 have VD:=hide (Dig.val_drop la)
 have MLT:=hide om.lt
 have HPOS:=hide hpos
 have VN:=hide (show Dig.val (la.drop la.length)=0 by rw[List.drop_of_length_le (Nat.le_refl _)];rfl)
 have V0:=hide (show la.drop 0=la from rfl)
 generalize hna:la.length=na at *
 generalize hnm:lm.length=nm at *
 have HNA:=hide hna
 have HNM:=hide hnm
 clear oa om hna hnm hpos
 go_enter Tryz.func115,Tryz.ntmps115
 go_wp2
 go_loopw [5,6] (fun vr vi wr=>∃ (m:Nat) (l:List Nat),m≤na∧((m=0∧vi = .int .i64 (-1))∨∃ q:Nat,m=q+1∧vi = .int .i64 (q:Nat))∧Digs wr vr l∧Dig.Ok l∧l.length≤nm∧Dig.val l=Dig.val (la.drop m)%Dig.val lm∧Below w.heap.size w wr) (fun _ i _=>(intOf i+1).toNat)
 case atStart=>
  refine ⟨na,[],Nat.le_refl _,?_,Digs.nil _,(fun d hd=>by simp at hd),Nat.zero_le _,by rw[VN.out,Nat.zero_mod];rfl,Below.refl _ _⟩
  rcases Nat.eq_zero_or_pos na with h0 | h0
  ·exact .inl ⟨h0,by rw[h0];rfl⟩
  ·exact .inr ⟨na-1,by omega,by congr 1;omega⟩
 case round=>
  obtain ⟨m,l,hm,hvi,hd,hok,hll,hval,hbe⟩:=hrel
  rcases hvi with ⟨rfl,rfl⟩ | ⟨q,rfl,rfl⟩
  ·have HD:=hide hd
   have HOK:=hide hok
   have HL:=hide hll
   have HBE:=hide hbe
   have HVAL:=hide hval
   clear hd hok hll hbe hval
   go_wp2
   go_ret
   exact ⟨_,rfl,l,HD.out,HOK.out,HVAL.out,HL.out,HBE.out⟩
  ·have hq:q<na:=by omega
   obtain ⟨x,hx⟩:∃ x:Nat,x=la.getD q 0:=⟨_,rfl⟩
   obtain ⟨D,hD⟩:∃ D:Nat,D=Dig.val (la.drop (q+1)):=⟨_,rfl⟩
   have hx2:x<256:=by rw[hx];exact OA.out.at q
   have VQ:=hide (show Dig.val (la.drop q)=D*2 ^ (8-0)+x/2 ^ 0 by rw[VD.out q hq,←hD,←hx];simp;omega)
   rw[←hD] at hval
   have HX:=hide hx
   have HD:=hide hd
   have HOK:=hide hok
   have HL:=hide hll
   have HBE:=hide hbe
   have HVAL:=hide hval
   clear hd hok hll hbe hval hx hD
   go_wp2
   go_loopw [5,7] (fun vr vb w2=>∃ (n:Nat) (l:List Nat),n≤8∧((n=0∧vb = .int .i64 (-1))∨∃ b:Nat,n=b+1∧vb = .int .i64 (b:Nat))∧Digs w2 vr l∧Dig.Ok l∧l.length≤nm∧Dig.val l=(D*2 ^ (8-n)+x/2 ^ n)%Dig.val lm∧Below w.heap.size w w2) (fun _ b _=>(intOf b+1).toNat)
   case atStart=>exact ⟨8,l,by omega,.inr ⟨7,rfl,rfl⟩,HD.out,HOK.out,HL.out,by rw[HVAL.out,Nat.div_eq_of_lt hx2];simp,HBE.out⟩
   case round=>
    clear HD HOK HL HBE HVAL
    obtain ⟨n,l,hn,hvb,hd,hok,hll,hval,hbe⟩:=hrel
    rcases hvb with ⟨rfl,rfl⟩ | ⟨b,rfl,rfl⟩
    ·have HD:=hide hd
     have HOK:=hide hok
     have HL:=hide hll
     have HBE:=hide hbe
     have HVAL:=hide hval
     clear hd hok hll hbe hval
     go_wp2
     go_roundw
     case rel=>
      refine ⟨q,l,by omega,?_,HD.out,HOK.out,HL.out,by rw[HVAL.out,VQ.out],HBE.out⟩
      rcases Nat.eq_zero_or_pos q with h0 | h0
      ·exact .inl ⟨h0,by rw[h0];rfl⟩
      ·exact .inr ⟨q-1,by omega,by congr 1;omega⟩
     case measure=>simp[intOf]
    ·have hb7:b≤7:=by omega
     obtain ⟨_,_,hda,_,_,hcella⟩:=HA.out.below hbe
     injection hda with e1 f1 f2
     subst e1
     clear f1 f2
     obtain ⟨ga,offa,rfl,ca0⟩:=hcella q (by rw[HNA.out];exact hq)
     rw[←HX.out] at ca0
     have jq:(q:Int)<(na:Int):=by omega
     have HD:=hide hd
     have HOK:=hide hok
     have HL:=hide hll
     have HBE:=hide hbe
     have HVAL:=hide hval
     clear hd hok hll hbe hval hcella
     obtain ⟨bit,hbit⟩:∃ bit:Nat,bit=x/2 ^ b%2:=⟨_,rfl⟩
     have hbit1:bit≤1:=by omega
     have BS:=hide (bit_step D x b hb7)
     rw[←hbit] at BS
     have A1:=hide (natAdd_any _ _ l l wr HD.out HD.out HOK.out HOK.out (by have:=HL.out;omega) (by have:=HL.out;omega))
     have t1:((x:Int)/2 ^ b).tmod 2=(bit:Int):=by
      rw[Int.tmod_eq_emod_of_nonneg (Int.ediv_nonneg (by omega) (Int.le_of_lt (Int.pow_pos (by decide)))),hbit]
      push_cast
      rfl
     have HVAL2:=hide (mod_twice HPOS.out hbit1 HVAL.out)
     rw[BS.out] at HVAL2
     have HBIT:=hide hbit
     clear hbit
     go_wp2_with fail
     refine A1.out.mono ?_
     rintro e w1 ⟨v1,rfl,l1,own1,ok1,val1,len1,be1⟩
     have HOWN1:=hide own1
     have OK1:=hide ok1
     have VAL1:=hide val1
     have LEN1:=hide (show l1.length≤nm+1 by have:=HL.out;omega)
     have BE1:=hide be1
     have hs1:=be1.size
     clear own1 ok1 val1 len1 be1 A1
     go_wp2_with fail
     have own1:=Digs.of_own HOWN1.out
     refine (natAdd_any v1 (.slice (some ⟨w1.heap.size,0,none⟩) 1 1) l1 [bit] _ ((own1.below ((Below.refl _ _).alloc (Nat.le_refl _) _))) (Digs.of_blk (Blk.new rfl (by rfl)) 1 rfl (by decide)) OK1.out (fun d hd=>by rw[List.mem_singleton.1 hd];omega) (by have:=LEN1.out;omega) (by simp)).mono ?_
     rintro e w2 ⟨v2,rfl,l2,own2,ok2,val2,len2,be2⟩
     have D2:=hide (Digs.of_own own2)
     have OK2:=hide ok2
     have VAL2:=hide (show Dig.val l2=2*Dig.val l+bit by rw[val2,VAL1.out,Dig.val_one];omega)
     have LEN2:=hide (show l2.length≤nm+2∧0<l2.length by have:=LEN1.out;simp at len2;omega)
     have BE2:=hide (show Below w.heap.size w w2 from ((HBE.out.trans (BE1.out.mono HBE.out.size)).alloc (Nat.le_trans HBE.out.size hs1) _).trans (be2.mono (Nat.le_trans (Nat.le_trans HBE.out.size hs1) (by simp))))
     clear own1 own2 ok2 val2 len2 be2 HOWN1 OK1 VAL1 LEN1 BE1 hs1
     have DM:=hide (HM.out.below BE2.out)
     go_wp2_with fail
     refine (natLess_any _ _ l2 lm w2 D2.out DM.out OK2.out OM.out (by have:=LEN2.out;omega) (by rw[HNM.out];omega)).mono ?_
     rintro e w3 ⟨rfl,rfl⟩
     by_cases hlt:Dig.val l2<Dig.val lm
     ·rw[decide_eq_true hlt]
      have HLT:=hide hlt
      clear hlt
      go_wp2_with fail
      refine (natTrim_any _ l2 w3 D2.out LEN2.out.2 (by have:=LEN2.out;omega)).mono ?_
      rintro e w4 ⟨⟨v4,rfl,k,hk,d4,val4,hk4⟩,rfl⟩
      have D4:=hide d4
      have VAL4:=hide val4
      have LEN4:=hide (trim_len hk4 HLT.out MLT.out)
      clear d4 val4 hk hk4
      go_wp2
      go_roundw
      case rel=>
       refine ⟨b,l2.take k,by omega,?_,D4.out,OK2.out.take k,by simp;have:=LEN4.out;omega,by rw[VAL4.out,VAL2.out];exact HVAL2.out.1 (by have:=VAL2.out;have:=HLT.out;omega),BE2.out⟩
       rcases Nat.eq_zero_or_pos b with h0 | h0
       ·exact .inl ⟨h0,by rw[h0];rfl⟩
       ·exact .inr ⟨b-1,by omega,by congr 1;omega⟩
      case measure=>simp[intOf]
     ·rw[decide_eq_false hlt]
      have HLT:=hide hlt
      clear hlt
      go_wp2_with fail
      refine (natMinus_any _ _ l2 lm w3 D2.out DM.out OK2.out OM.out (by have:=LEN2.out;omega) (by have:=HLT.out;omega)).mono ?_
      rintro e w4 ⟨v4,rfl,l4,own4,ok4,val4,len4,be4⟩
      have D4:=hide (Digs.of_own own4)
      have OK4:=hide ok4
      have VAL4:=hide (show Dig.val l4=(D*2 ^ (8-b)+x/2 ^ b)%Dig.val lm by rw[val4,VAL2.out];exact HVAL2.out.2 (by have:=VAL2.out;have:=HLT.out;omega))
      have LEN4:=hide (show l4.length≤nm+2∧0<l4.length by have:=LEN2.out;omega)
      have BE4:=hide (show Below w.heap.size w w4 from BE2.out.trans (be4.mono BE2.out.size))
      clear own4 ok4 val4 len4 be4
      go_wp2_with fail
      refine (natTrim_any _ l4 w4 D4.out LEN4.out.2 (by have:=LEN4.out;omega)).mono ?_
      rintro e w5 ⟨⟨v5,rfl,k,hk,d5,val5,hk5⟩,rfl⟩
      have D5:=hide d5
      have VAL5:=hide val5
      have LEN5:=hide (trim_len hk5 (by rw[VAL4.out];exact Nat.mod_lt _ HPOS.out) MLT.out)
      clear d5 val5 hk hk5
      go_wp2
      go_roundw
      case rel=>
       refine ⟨b,l4.take k,by omega,?_,D5.out,OK4.out.take k,by simp;have:=LEN5.out;omega,by rw[VAL5.out,VAL4.out],BE4.out⟩
       rcases Nat.eq_zero_or_pos b with h0 | h0
       ·exact .inl ⟨h0,by rw[h0];rfl⟩
       ·exact .inr ⟨b-1,by omega,by congr 1;omega⟩
      case measure=>simp[intOf]
def leB (v k:Nat):List UInt8:=(List.range k).map fun i=>UInt8.ofNat (v/256 ^ i%256)
theorem leB_succ (v k:Nat):leB v (k+1)=leB v k++[UInt8.ofNat (v/256 ^ k%256)]:=by simp[leB,List.range_succ]
theorem leB_len (v k:Nat):(leB v k).length=k:=by simp[leB]
theorem Dig.digit_of {l:List Nat} (h:Dig.Ok l) (i:Nat):l.getD i 0=Dig.val l/256 ^ i%256:=by
 have hp:0<256 ^ i:=Nat.pow_pos (by decide)
 by_cases hi:i<l.length
 ·have h1:Dig.val l=Dig.val (l.take i)+256 ^ i*Dig.val (l.drop i):=by
   conv=>lhs;rw[←List.take_append_drop i l]
   rw[Dig.val_append,List.length_take,Nat.min_eq_left (Nat.le_of_lt hi)]
  rw[h1,Nat.add_mul_div_left _ _ hp,Nat.div_eq_of_lt (Dig.take_lt h i),Nat.zero_add,Dig.val_drop l i hi,Nat.add_mul_mod_self_left,Nat.mod_eq_of_lt (h.at i)]
 ·have h2:Dig.val l<256 ^ i:=Nat.lt_of_lt_of_le h.lt (Nat.pow_le_pow_right (by decide) (by omega))
  rw[Nat.div_eq_of_lt h2,List.getD_eq_getElem?_getD,List.getElem?_eq_none (by omega)]
  rfl
set_option maxRecDepth 100000 in
set_option maxHeartbeats 800000 in
theorem natBytes_any (v:Value) (l:List Nat) (k:Nat) (w:World) (h:Digs w v l) (ok:Dig.Ok l) (hk0:0<k) (hk:k≤1000):
  Calls Tryz.prog 116 #[v,.int .i64 (k:Nat)] w fun e w'=>e = .returned (.string ⟨(leB (Dig.val l) k).toArray⟩)∧Below w.heap.size w w':=by
 have HH:=hide h
 obtain ⟨ao,cap,rfl,hc1,hc2,_⟩:=h
 unfold maxLen at hc2
 have DG:=hide (fun i=>Dig.digit_of ok i)
 have XS:=hide (leB_succ (Dig.val l))
 have X0:=hide (show leB (Dig.val l) 0=[] from rfl)
 have OA:=hide ok
 generalize leB (Dig.val l)=xl at *
 generalize hna:l.length=na at *
 have HNA:=hide hna
 clear ok hna
 go_enter Tryz.func116,Tryz.ntmps116
 go_wp2
 go_loopw [5,6] (fun vo vi wr=>∃ i:Nat,i≤k∧vi = .int .i64 (i:Nat)∧Row wr w.heap.size 5 1 vo i (u8L (xl i))∧Below w.heap.size w wr) (fun _ i _=>k-(intOf i).toNat)
 case atStart=>exact ⟨0,by omega,rfl,by rw[X0.out];exact Row.nil _ _ _ _,Below.refl _ _⟩
 case round=>
  obtain ⟨i,hi,rfl,hrow,hbe⟩:=hrel
  by_cases hlt:i<k
  ·have jk:(i:Int)<(k:Int):=by omega
   have HROW:=hide hrow
   have HBE:=hide hbe
   have hsz:=hbe.size
   have hd:=OA.out.at i
   have HX:=hide (XS.out i)
   rw[←DG.out i] at HX
   have E8:=hide (show (((l.getD i 0:Nat):Int))=((UInt8.ofNat (l.getD i 0)).toNat:Nat) by rw[ofNat_mod,Nat.mod_eq_of_lt hd])
   obtain ⟨_,_,hda,_,_,hcell⟩:=HH.out.below hbe
   by_cases hin:i<na
   ·obtain ⟨g,o,e1,c0⟩:=hcell i (by rw[HNA.out];exact hin)
    injection hda with e2 e3 e4
    subst e2
    subst e1
    clear e3 e4
    have jn:(i:Int)<(na:Int):=by omega
    generalize l.getD i 0=d at *
    clear hrow hbe hcell
    go_wp2_with (at_builtin;refine wpList_append_u8 rfl (.tmp 21) (.tmp 24) rfl w.heap.size _ i _ rfl (HROW.out.alloc _) _ 1 1 [UInt8.ofNat d] rfl rfl (one_news E8.out (World.cell?_alloc_at _ _ _ _ rfl)) ?_ ?_ ?_;omega;(simp;omega);intro v1 w5 hr1 hg1 hat1)
    go_roundw
    case rel=>exact ⟨i+1,by omega,by first | rfl | go_num,by rw[HX.out];exact hr1,Below.grown (HBE.out.alloc hsz _) hg1 (by simp;omega) (fun q hq=>(HROW.out.lt q hq).1)⟩
    case measure=>simp[intOf];omega
   ·have hd0:l.getD i 0=0:=by rw[List.getD_eq_getElem?_getD,List.getElem?_eq_none (by have:=HNA.out;omega)];rfl
    rw[hd0] at HX E8
    have jn:¬ (i:Int)<(na:Int):=by omega
    clear hrow hbe hcell hda hd hd0
    go_wp2_with (at_builtin;refine wpList_append_u8 rfl (.tmp 21) (.tmp 24) rfl w.heap.size _ i _ rfl (HROW.out.alloc _) _ 1 1 [UInt8.ofNat 0] rfl rfl (one_news E8.out (World.cell?_alloc_at _ _ _ _ rfl)) ?_ ?_ ?_;omega;(simp;omega);intro v1 w5 hr1 hg1 hat1)
    go_roundw
    case rel=>exact ⟨i+1,by omega,by first | rfl | go_num,by rw[HX.out];exact hr1,Below.grown (HBE.out.alloc hsz _) hg1 (by simp;omega) (fun q hq=>(HROW.out.lt q hq).1)⟩
    case measure=>simp[intOf];omega
  ·have hik:i=k:=by omega
   obtain ⟨g4,cap4,rfl,hcv⟩:=Row.str hrow (by omega)
   have jk:¬ (i:Int)<(k:Int):=by omega
   have HF:=hide (show xl k=xl i by rw[hik])
   have HBE:=hide hbe
   clear hrow hbe hik
   go_wp2
   go_ret
   rw[HF.out]
   exact ⟨rfl,HBE.out⟩
namespace Pol
def P:Nat:=2 ^ 130-5
def pL:List Nat:=251::(List.replicate 15 255++[3])
theorem pL_val:Dig.val pL=P:=by decide
theorem pL_ok:Dig.Ok pL:=fun d hd=>by
 simp[pL] at hd
 omega
def cl (i x:Nat):Nat:=if i%4=3 then x%16 else if i%4=0∧0<i then x-x%4 else x
def clL (l:List Nat) (k:Nat):List Nat:=l.mapIdx fun i x=>if i<k then cl i x else x
theorem clL_len (l:List Nat) (k:Nat):(clL l k).length=l.length:=by simp[clL]
theorem clL_zero (l:List Nat):clL l 0=l:=by
 refine List.ext_getElem (by simp[clL]) fun i h1 h2=>?_
 simp[clL]
theorem clL_at (l:List Nat) (k:Nat) (h:k<l.length):(clL l k).getD k 0=l.getD k 0:=by
 rw[List.getD_eq_getElem?_getD,List.getD_eq_getElem?_getD,List.getElem?_eq_getElem (by rw[clL_len];exact h),List.getElem?_eq_getElem h]
 simp[clL]
theorem clL_succ (l:List Nat) (k:Nat) (h:k<l.length):(clL l k).set k (cl k (l.getD k 0))=clL l (k+1):=by
 refine List.ext_getElem (by simp[clL]) fun i h1 h2=>?_
 rw[List.getElem_set]
 by_cases hik:k=i
 ·subst hik
  rw[if_pos rfl,List.getD_eq_getElem?_getD,List.getElem?_eq_getElem h]
  simp[clL]
 ·rw[if_neg hik]
  simp only[clL,List.getElem_mapIdx]
  by_cases hlt:i<k
  ·rw[if_pos hlt,if_pos (by omega)]
  ·rw[if_neg hlt,if_neg (by omega)]
theorem set_same (l:List Nat) (k x:Nat) (h:l.getD k 0=x) (hk:k<l.length):l.set k x=l:=by
 rw[←h,List.getD_eq_getElem?_getD,List.getElem?_eq_getElem hk]
 exact List.set_getElem_self hk
theorem cl_le (i x:Nat):cl i x≤x:=by
 unfold cl
 split
 ·exact Nat.mod_le _ _
 ·split
  ·omega
  ·exact Nat.le_refl _
theorem clL_ok {l:List Nat} (h:Dig.Ok l) (k:Nat):Dig.Ok (clL l k):=fun d hd=>by
 obtain ⟨i,hi,rfl⟩:=List.mem_iff_getElem.1 hd
 have hi2:i<l.length:=by rw[clL_len] at hi;exact hi
 simp only[clL,List.getElem_mapIdx]
 have h1:=h l[i] (List.getElem_mem _)
 have h2:=cl_le i l[i]
 split <;> omega
end Pol
set_option maxRecDepth 100000 in
set_option maxHeartbeats 800000 in
theorem polPrime_any (w:World):
  Calls Tryz.prog 110 #[] w fun e w'=>e = .returned (.slice (some ⟨w.heap.size,0,none⟩) 17 17)∧Blk w' w.heap.size 3 (i64V Pol.pL)∧Below w.heap.size w w':=by
 have hmk:∀ w,(Instr.makeSlice 24 (.int .i64 17) (.int .i64 17)).run Tryz.prog w = .ok (.slice (some ⟨w.heap.size,0,none⟩) 17 17) (w.alloc (.cells (intV (List.replicate 17 0)).toArray 3)):=fun w=>make_ints 17 (by decide) w
 go_enter Tryz.func110,Tryz.ntmps110
 go_wp2
 clear hmk
 go_loopw [2] (fun vi wr=>∃ k:Nat,k≤16∧vi = .int .i64 k∧Blk wr w.heap.size 3 (i64V (List.replicate k 255++List.replicate (17-k) 0))∧Below w.heap.size w wr) (fun i _=>16-(intOf i).toNat)
 case atStart=>exact ⟨0,by omega,rfl,Blk.new rfl (by rfl),(Below.refl _ _).alloc (Nat.le_refl _) _⟩
 case round=>
  obtain ⟨k,hk,rfl,hB,hbe⟩:=hrel
  by_cases hlt:k<16
  ·have hz:=i64V_new (List.replicate k 255) (17-k) k (by simp) (by omega)
   have c0:=hB.cell hz
   have f0:=hB.frozen k
   have hset:(i64V (List.replicate k 255++List.replicate (17-k) 0)).set k (.int .i64 255)=i64V (List.replicate (k+1) 255++List.replicate (17-(k+1)) 0):=by
    rw[show (Value.int .i64 255) = .int .i64 ((255:Nat):Int) from rfl,i64V_put]
    congr 1
    rw[List.set_append_right _ _ (by simp),List.length_replicate,Nat.sub_self,show 17-k=(17-(k+1))+1 by omega,List.replicate_succ,List.set_cons_zero,List.replicate_succ' (n:=k)]
    simp
   have HB2:=hide (show Blk (wr.setCell ⟨w.heap.size,k,none⟩ (.int .i64 255)) w.heap.size 3 (i64V (List.replicate (k+1) 255++List.replicate (17-(k+1)) 0)) by rw[←hset];exact hB.setCell_same k _)
   have HBE:=hide hbe
   have jk:(k:Int)<16:=by omega
   clear hset hB hbe hz
   go_wp2
   go_roundw
   case rel=>exact ⟨k+1,by omega,by go_num,HB2.out,HBE.out.setCell (by simp) _⟩
   case measure=>simp[intOf];omega
  ·obtain rfl:k=16:=by omega
   have hb1:=hB.setCell_same 0 (.int .i64 251)
   have hb2:=hb1.setCell_same 16 (.int .i64 3)
   have HB2:=hide (show Blk ((wr.setCell ⟨w.heap.size,0,none⟩ (.int .i64 251)).setCell ⟨w.heap.size,16,none⟩ (.int .i64 3)) w.heap.size 3 (i64V Pol.pL) from hb2)
   have HBE:=hide hbe
   have c0:=hB.cell (i:=0) rfl
   have f0:=hB.frozen 0
   have c1:=hb1.cell (i:=16) rfl
   have f1:=hb1.frozen 16
   clear hB hbe hb1 hb2
   go_wp2
   go_ret
   exact ⟨rfl,HB2.out,(HBE.out.setCell (by simp) _).setCell (by simp) _⟩
set_option maxRecDepth 100000 in
set_option maxHeartbeats 800000 in
theorem polClamped_any (s:ByteArray) (w:World) (hs:s.size=16):
  Calls Tryz.prog 111 #[.string s] w fun e w'=>e = .returned (.slice (some ⟨w.heap.size,0,none⟩) 16 16)∧Blk w' w.heap.size 3 (i64V (Pol.clL (digitsOf s.data.toList) 16))∧Below w.heap.size w w':=by
 have HO:=hide (natOf_any s w (by omega))
 rw[hs] at HO
 have hdl:(digitsOf s.data.toList).length=16:=by simp[digitsOf];exact hs
 have HAT:=hide (fun k (h:k<16)=>Pol.clL_at (digitsOf s.data.toList) k (by omega))
 have HSU:=hide (fun k (h:k<16)=>Pol.clL_succ (digitsOf s.data.toList) k (by omega))
 have HLN:=hide (fun k=>(Pol.clL_len (digitsOf s.data.toList) k).trans hdl)
 have HOK:=hide (digitsOf_ok s.data.toList)
 have HZ:=hide (Pol.clL_zero (digitsOf s.data.toList))
 clear hdl hs
 generalize digitsOf s.data.toList=D at *
 go_enter Tryz.func111,Tryz.ntmps111
 go_wp2_with fail
 refine HO.out.mono ?_
 rintro e w1 ⟨rfl,hB1,hbe1⟩
 have HB1:=hide hB1
 have HBE1:=hide hbe1
 clear hB1 hbe1 HO
 go_wp2
 go_loopw [4] (fun vi wr=>∃ k:Nat,k≤16∧vi = .int .i64 k∧Blk wr w.heap.size 3 (i64V (Pol.clL D k))∧Below w.heap.size w wr) (fun i _=>16-(intOf i).toNat)
 case atStart=>exact ⟨0,by omega,rfl,by rw[HZ.out];exact HB1.out,HBE1.out⟩
 case round=>
  obtain ⟨k,hk,rfl,hB,hbe⟩:=hrel
  by_cases hlt:k<16
  ·have hat:=HAT.out k hlt
   have hsu:=HSU.out k hlt
   have hx:=HOK.out.at k
   have c0:=hB.cell (i64V_get (Pol.clL D k) k (by rw[HLN.out];exact hlt))
   rw[hat] at c0
   have f0:=hB.frozen k
   have HB2:=hide (show Blk (wr.setCell ⟨w.heap.size,k,none⟩ (.int .i64 ((Pol.cl k (D.getD k 0):Nat):Int))) w.heap.size 3 (i64V (Pol.clL D (k+1))) by rw[←hsu,←i64V_put];exact hB.setCell_same k _)
   have HBE:=hide hbe
   have HB3:=hide hB
   have jk:(k:Int)<16:=by omega
   generalize D.getD k 0=x at *
   have t1:(k:Int).tmod 4=((k%4:Nat):Int):=by rw[Int.tmod_eq_emod_of_nonneg (by omega)];omega
   by_cases h3:k%4=3
   ·have hcl:Pol.cl k x=x%16:=by unfold Pol.cl;rw[if_pos h3]
    rw[hcl] at HB2
    have t2:(x:Int).tmod 16=((x%16:Nat):Int):=by rw[Int.tmod_eq_emod_of_nonneg (by omega)];omega
    rw[h3] at t1
    generalize x%16=y at *
    clear hat hsu hB hbe hcl h3
    go_wp2
    go_roundw
    case rel=>exact ⟨k+1,by omega,by go_num,HB2.out,HBE.out.setCell (by simp) _⟩
    case measure=>simp[intOf];omega
   ·by_cases h0:k%4=0∧0<k
    ·have hcl:Pol.cl k x=x-x%4:=by unfold Pol.cl;rw[if_neg h3,if_pos h0]
     rw[hcl] at HB2
     have t2:(x:Int).tmod 4=((x%4:Nat):Int):=by rw[Int.tmod_eq_emod_of_nonneg (by omega)];omega
     have hy:x%4≤x:=Nat.mod_le _ _
     rw[h0.1] at t1
     generalize x%4=y at *
     have t3:(x:Int)-(y:Int)=((x-y:Nat):Int):=by omega
     have t4:IntKind.i64.wrap ((x:Int)-(y:Int))=((x-y:Nat):Int):=(IntWalk.i64_in _ (by omega)).trans (by omega)
     have h00:=h0.2
     clear hat hsu hB hbe hcl h3 h0
     go_wp2
     go_region_law (fail)
     all_goals
      go_wp2
      go_roundw
      case rel=>exact ⟨k+1,by omega,by go_num,HB2.out.drew,(HBE.out.setCell (by simp) _).drew⟩
      case measure=>simp[intOf];omega
    ·have hcl:Pol.cl k x=x:=by unfold Pol.cl;rw[if_neg h3,if_neg h0]
     have HB4:=hide (show Blk wr w.heap.size 3 (i64V (Pol.clL D (k+1))) by
      rw[←hsu,hcl,Pol.set_same _ _ _ hat (by rw[HLN.out];exact hlt)]
      exact hB)
     obtain ⟨m,hm⟩:∃ m:Nat,m=k%4:=⟨_,rfl⟩
     rw[←hm] at t1 h3
     have z1:((m:Int)==3)=false:=beq_eq_false_iff_ne.2 (by omega)
     by_cases h4:m=0
     ·obtain rfl:k=0:=by omega
      clear hat hsu hB hbe hcl h3 h0 z1 h4 hm t1 HB2
      go_wp2
      go_roundw
      case rel=>exact ⟨1,by omega,by first | rfl | go_num,HB4.out,HBE.out⟩
      case measure=>simp[intOf]
     ·have z2:((m:Int)==0)=false:=beq_eq_false_iff_ne.2 (by omega)
      clear hat hsu hB hbe hcl h3 h0 h4 hm HB2
      go_wp2
      go_roundw
      case rel=>exact ⟨k+1,by omega,by first | rfl | go_num,HB4.out,HBE.out⟩
      case measure=>simp[intOf];omega
  ·obtain rfl:k=16:=by omega
   have HB2:=hide hB
   have HBE:=hide hbe
   clear hB hbe
   go_wp2
   go_ret
   exact ⟨rfl,HB2.out,HBE.out⟩
namespace Pol
theorem pL_pos:0<Dig.val pL:=by rw[pL_val];unfold P;decide
def num (text:List UInt8) (j:Nat):Nat:=Dig.val (digitsOf ((text.drop (16*j)).take 16++[1]))
def acc (r:Nat) (text:List UInt8):Nat→Nat
 | 0=>0
 | j+1=>(acc r text j+num text j)*r%P
def rOf (key:List UInt8):Nat:=Dig.val (clL (digitsOf (key.take 16)) 16)
def sOf (key:List UInt8):Nat:=Dig.val (digitsOf (key.drop 16))
def tag (key text:List UInt8):List UInt8:=leB (acc (rOf key) text ((text.length+15)/16)+sOf key) 16
end Pol
theorem sub_list (a:ByteArray) (i j:Nat):(a.extract i j).data.toList=(a.data.toList.drop i).take (j-i):=by
 conv=>lhs;rw[show a=⟨a.data.toList.toArray⟩ by simp]
 exact extract_list _ i j
theorem cat_list (a b:ByteArray):(a++b).data.toList=a.data.toList++b.data.toList:=by simp[ByteArray.data_append]
theorem text_len (a:ByteArray):a.data.toList.length=a.size:=by rw[Array.length_toList];rfl
theorem cat_size (a b:ByteArray):(a++b).size=a.size+b.size:=by rw[←text_len,cat_list,List.length_append,text_len,text_len]
theorem digitsOf_len (l:List UInt8):(digitsOf l).length=l.length:=by simp[digitsOf]
theorem tag_nums (j n:Nat) (h:16*j<n):∃ i t:Nat,i=16*j∧t=min (i+16) n∧i<n∧i<t∧t≤i+16∧t≤n:=⟨16*j,min (16*j+16) n,rfl,rfl,h,by omega,by omega,by omega⟩
theorem take_rest (l:List UInt8) (i t n:Nat) (hn:l.length=n) (ht:t=min (i+16) n):(l.drop i).take (t-i)=(l.drop i).take 16:=by
 by_cases h:i+16≤n
 ·rw[show t-i=16 by omega]
 ·rw[List.take_of_length_le (by simp;omega),List.take_of_length_le (by simp;omega)]
set_option maxRecDepth 100000 in
set_option maxHeartbeats 1600000 in
theorem polTag_any (key text:ByteArray) (w:World) (h:key.size=32) (ht:text.size≤1099511627776):
  Calls Tryz.prog 52 #[.string key,.string text] w fun e w'=>e = .returned (.tuple #[.string ⟨(Pol.tag key.data.toList text.data.toList).toArray⟩,.int .i64 0])∧Below w.heap.size w w':=by
 have z:((key.size:Int) != 32)=false:=by rw[h];rfl
 have k1:(16:Int)≤(key.size:Int):=by omega
 have hk1:(key.extract 0 16).size=16:=by rw[ByteArray.size_extract];omega
 have hk2:(key.extract 16 key.size).size=16:=by rw[ByteArray.size_extract];omega
 have HC:=hide (fun w=>polClamped_any (key.extract 0 16) w hk1)
 have HO:=hide (fun w=>natOf_any (key.extract 16 key.size) w (by omega))
 rw[hk2] at HO
 have HR:=hide (show digitsOf (key.extract 0 16).data.toList=digitsOf (key.data.toList.take 16) by rw[sub_list];rfl)
 have HS:=hide (show digitsOf (key.extract 16 key.size).data.toList=digitsOf (key.data.toList.drop 16) by rw[sub_list,List.take_of_length_le (by rw[List.length_drop,text_len];omega)])
 have hrl:(Pol.clL (digitsOf (key.data.toList.take 16)) 16).length=16:=by rw[Pol.clL_len,digitsOf_len,List.length_take,text_len];omega
 have hsl:(digitsOf (key.data.toList.drop 16)).length=16:=by rw[digitsOf_len,List.length_drop,text_len];omega
 have HRO:=hide (show Dig.Ok (Pol.clL (digitsOf (key.data.toList.take 16)) 16) from Pol.clL_ok (digitsOf_ok _) 16)
 have HSO:=hide (show Dig.Ok (digitsOf (key.data.toList.drop 16)) from digitsOf_ok _)
 rw[HR.out] at HC
 rw[HS.out] at HO
 have HRV:=hide (show Dig.val (Pol.clL (digitsOf (key.data.toList.take 16)) 16)=Pol.rOf key.data.toList from rfl)
 have HSV:=hide (show Dig.val (digitsOf (key.data.toList.drop 16))=Pol.sOf key.data.toList from rfl)
 have HTG:=hide (show Pol.tag key.data.toList text.data.toList=leB (Pol.acc (Pol.rOf key.data.toList) text.data.toList ((text.size+15)/16)+Pol.sOf key.data.toList) 16 by rw[←text_len];rfl)
 have HRL:=hide hrl
 have HSL:=hide hsl
 generalize Pol.clL (digitsOf (key.data.toList.take 16)) 16=rL at *
 generalize digitsOf (key.data.toList.drop 16)=sL at *
 generalize Pol.rOf key.data.toList=rV at *
 generalize Pol.sOf key.data.toList=sV at *
 generalize Pol.tag key.data.toList text.data.toList=TG at *
 clear h hk1 hk2 HR HS hrl hsl
 go_enter Tryz.func52,Tryz.ntmps52
 go_wp2_with fail
 refine (polPrime_any _).mono ?_
 rintro e w1 ⟨rfl,hB1,hbe1⟩
 have DP1:=hide (Digs.of_blk hB1 17 rfl (by decide))
 have BE1:=hide hbe1
 clear hB1 hbe1
 go_wp2_with fail
 refine (HC.out _).mono ?_
 rintro e w2 ⟨rfl,hB2,hbe2⟩
 have DP2:=hide (DP1.out.below hbe2)
 have DR2:=hide (Digs.of_blk hB2 16 HRL.out (by decide))
 have BE2:=hide (BE1.out.trans (hbe2.mono BE1.out.size))
 clear hB2 hbe2 DP1 BE1 HC
 go_wp2_with fail
 refine (HO.out _).mono ?_
 rintro e w3 ⟨rfl,hB3,hbe3⟩
 have DP3:=hide (DP2.out.below hbe3)
 have DR3:=hide (DR2.out.below hbe3)
 have DS3:=hide (Digs.of_blk hB3 16 HSL.out (by decide))
 have BE3:=hide (BE2.out.trans (hbe3.mono BE2.out.size))
 clear hB3 hbe3 DP2 DR2 BE2 HO z
 generalize hvp:Value.slice (some ⟨w.heap.size,0,none⟩) 17 17=vp at *
 generalize hvr:Value.slice (some ⟨w1.heap.size,0,none⟩) 16 16=vr at *
 generalize hvs:Value.slice (some ⟨w2.heap.size,0,none⟩) 16 16=vs at *
 clear hvp hvr hvs
 go_wp2
 go_loopw [9,10] (fun va vi wr=>∃ (j:Nat) (l:List Nat),16*j<text.size+16∧vi = .int .i64 ((16*j:Nat):Int)∧Digs wr va l∧Dig.Ok l∧l.length≤17∧Dig.val l=Pol.acc rV text.data.toList j∧Below w3.heap.size w3 wr) (fun _ i _=>text.size+16-(intOf i).toNat)
 case atStart=>exact ⟨0,[],by omega,rfl,Digs.nil _,(fun d hd=>by simp at hd),by simp,rfl,Below.refl _ _⟩
 case round=>
  obtain ⟨j,l,hj,rfl,hd,hok,hll,hval,hbe⟩:=hrel
  have HD:=hide hd
  have HOK:=hide hok
  have HL:=hide hll
  have HVAL:=hide hval
  have HBE:=hide hbe
  clear hd hok hll hval hbe
  by_cases hlt:16*j<text.size
  ·obtain ⟨i,t,hi,htt,h1,h2,h3,h4⟩:=tag_nums j text.size hlt
   have HI:=hide hi
   rw[←hi]
   have htl:(text.extract i t++(⟨#[1]⟩:ByteArray)).data.toList=(text.data.toList.drop (16*j)).take 16++[1]:=by rw[cat_list,sub_list,take_rest _ _ _ _ (text_len text) htt,hi]
   have hsz:(text.extract i t++(⟨#[1]⟩:ByteArray)).size=t-i+1:=by rw[cat_size,ByteArray.size_extract,Nat.min_eq_left h4];rfl
   have j2:¬ 9223372036854775807<(text.extract i t).size+(⟨#[1]⟩:ByteArray).size:=by rw[ByteArray.size_extract,Nat.min_eq_left h4];show ¬ 9223372036854775807<t-i+1;omega
   have HN:=hide (fun w=>natOf_any (text.extract i t++(⟨#[1]⟩:ByteArray)) w (by rw[hsz];omega))
   rw[hsz,htl] at HN
   have HNV:=hide (show Dig.val (digitsOf ((text.data.toList.drop (16*j)).take 16++[1]))=Pol.num text.data.toList j from rfl)
   have HNL:=hide (show (digitsOf ((text.data.toList.drop (16*j)).take 16++[1])).length=t-i+1 by rw[digitsOf_len,←htl,text_len,hsz])
   have HNO:=hide (digitsOf_ok ((text.data.toList.drop (16*j)).take 16++[1]))
   generalize digitsOf ((text.data.toList.drop (16*j)).take 16++[1])=nL at *
   have g1:(i:Int)<(text.size:Int):=by omega
   clear hi hlt hsz htl
   by_cases hle:text.size<i+16
   ·obtain rfl:t=text.size:=by omega
    have g2:(text.size:Int)<(i:Int)+16:=by omega
    clear hle htt
    go_wp2_with fail
    refine (HN.out _).mono ?_
    rintro e w4 ⟨rfl,hB4,hbe4⟩
    have DN4:=hide (Digs.of_blk hB4 _ HNL.out (by unfold maxLen;omega))
    have DL4:=hide (HD.out.below hbe4)
    have BE4:=hide (HBE.out.trans (hbe4.mono HBE.out.size))
    clear hB4 hbe4 HN
    go_wp2_with fail
    refine (natAdd_any _ _ l nL w4 DL4.out DN4.out HOK.out HNO.out (by have:=HL.out;omega) (by have:=HNL.out;omega)).mono ?_
    rintro e w5 ⟨v5,rfl,l5,own5,ok5,val5,len5,be5⟩
    have D5:=hide (Digs.of_own own5)
    have OK5:=hide ok5
    have VAL5:=hide val5
    have LEN5:=hide (show l5.length≤18 by have:=HL.out;have:=HNL.out;omega)
    have BE5:=hide (BE4.out.trans (be5.mono BE4.out.size))
    have DR5:=hide (DR3.out.below BE5.out)
    clear own5 ok5 val5 len5 be5 BE4 DN4 DL4
    go_wp2_with fail
    refine (natTimes_any _ _ l5 rL w5 D5.out DR5.out OK5.out HRO.out (by have:=LEN5.out;omega) (by have:=HRL.out;omega)).mono ?_
    rintro e w6 ⟨rfl,⟨l6,hB6,len6,ok6,val6⟩,be6⟩
    have D6:=hide (Digs.of_blk hB6 _ len6 (by have:=LEN5.out;have:=HRL.out;unfold maxLen;omega))
    have OK6:=hide ok6
    have VAL6:=hide val6
    have LEN6:=hide (show l6.length≤35 by have:=HRL.out;have:=LEN5.out;omega)
    have BE6:=hide (BE5.out.trans (be6.mono BE5.out.size))
    have DP6:=hide (DP3.out.below BE6.out)
    clear hB6 len6 ok6 val6 be6 BE5 DR5 D5
    go_wp2_with fail
    refine (natMod_any _ _ l6 Pol.pL w6 D6.out DP6.out OK6.out Pol.pL_ok (by have:=LEN6.out;omega) (by decide) Pol.pL_pos).mono ?_
    rintro e w7 ⟨v7,rfl,l7,d7,ok7,val7,len7,be7⟩
    have D7:=hide d7
    have OK7:=hide ok7
    have VAL7:=hide (show Dig.val l7=Pol.acc rV text.data.toList (j+1) by rw[val7,VAL6.out,VAL5.out,HVAL.out,HNV.out,HRV.out,Pol.pL_val];rfl)
    have LEN7:=hide (show l7.length≤17 from len7)
    have BE7:=hide (BE6.out.trans (be7.mono BE6.out.size))
    clear d7 ok7 val7 len7 be7 BE6 DP6 D6
    go_wp2
    go_roundw
    case rel=>exact ⟨j+1,l7,by have:=HI.out;omega,by rw[HI.out];first | rfl | go_num,D7.out,OK7.out,LEN7.out,VAL7.out,BE7.out⟩
    case measure=>simp[intOf];omega
   ·have g2:¬ (text.size:Int)<(i:Int)+16:=by omega
    obtain rfl:t=i+16:=by omega
    have h5:i+16≤text.size:=h4
    rw[show i+16-i+1=17 by omega] at HN HNL
    clear hle htt h2 h3 h4
    go_wp2_with fail
    refine (HN.out _).mono ?_
    rintro e w4 ⟨rfl,hB4,hbe4⟩
    have DN4:=hide (Digs.of_blk hB4 _ HNL.out (by unfold maxLen;omega))
    have DL4:=hide (HD.out.below hbe4)
    have BE4:=hide (HBE.out.trans (hbe4.mono HBE.out.size))
    clear hB4 hbe4 HN
    go_wp2_with fail
    refine (natAdd_any _ _ l nL w4 DL4.out DN4.out HOK.out HNO.out (by have:=HL.out;omega) (by have:=HNL.out;omega)).mono ?_
    rintro e w5 ⟨v5,rfl,l5,own5,ok5,val5,len5,be5⟩
    have D5:=hide (Digs.of_own own5)
    have OK5:=hide ok5
    have VAL5:=hide val5
    have LEN5:=hide (show l5.length≤18 by have:=HL.out;have:=HNL.out;omega)
    have BE5:=hide (BE4.out.trans (be5.mono BE4.out.size))
    have DR5:=hide (DR3.out.below BE5.out)
    clear own5 ok5 val5 len5 be5 BE4 DN4 DL4
    go_wp2_with fail
    refine (natTimes_any _ _ l5 rL w5 D5.out DR5.out OK5.out HRO.out (by have:=LEN5.out;omega) (by have:=HRL.out;omega)).mono ?_
    rintro e w6 ⟨rfl,⟨l6,hB6,len6,ok6,val6⟩,be6⟩
    have D6:=hide (Digs.of_blk hB6 _ len6 (by have:=LEN5.out;have:=HRL.out;unfold maxLen;omega))
    have OK6:=hide ok6
    have VAL6:=hide val6
    have LEN6:=hide (show l6.length≤35 by have:=HRL.out;have:=LEN5.out;omega)
    have BE6:=hide (BE5.out.trans (be6.mono BE5.out.size))
    have DP6:=hide (DP3.out.below BE6.out)
    clear hB6 len6 ok6 val6 be6 BE5 DR5 D5
    go_wp2_with fail
    refine (natMod_any _ _ l6 Pol.pL w6 D6.out DP6.out OK6.out Pol.pL_ok (by have:=LEN6.out;omega) (by decide) Pol.pL_pos).mono ?_
    rintro e w7 ⟨v7,rfl,l7,d7,ok7,val7,len7,be7⟩
    have D7:=hide d7
    have OK7:=hide ok7
    have VAL7:=hide (show Dig.val l7=Pol.acc rV text.data.toList (j+1) by rw[val7,VAL6.out,VAL5.out,HVAL.out,HNV.out,HRV.out,Pol.pL_val];rfl)
    have LEN7:=hide (show l7.length≤17 from len7)
    have BE7:=hide (BE6.out.trans (be7.mono BE6.out.size))
    clear d7 ok7 val7 len7 be7 BE6 DP6 D6
    go_wp2
    go_roundw
    case rel=>exact ⟨j+1,l7,by have:=HI.out;omega,by rw[HI.out];first | rfl | go_num,D7.out,OK7.out,LEN7.out,VAL7.out,BE7.out⟩
    case measure=>simp[intOf];omega
  ·have HJ:=hide (show j=(text.size+15)/16 by omega)
   have g1:¬ ((16*j:Nat):Int)<(text.size:Int):=by omega
   generalize 16*j=i at *
   clear hj
   have DS4:=hide (DS3.out.below HBE.out)
   go_wp2_with fail
   refine (natAdd_any _ _ l sL wr HD.out DS4.out HOK.out HSO.out (by have:=HL.out;omega) (by have:=HSL.out;omega)).mono ?_
   rintro e w5 ⟨v5,rfl,l5,own5,ok5,val5,len5,be5⟩
   have D5:=hide (Digs.of_own own5)
   have OK5:=hide ok5
   have VAL5:=hide val5
   have BE5:=hide (HBE.out.trans (be5.mono HBE.out.size))
   clear own5 ok5 val5 len5 be5
   go_wp2_with fail
   refine (natBytes_any _ l5 16 w5 D5.out OK5.out (by decide) (by decide)).mono ?_
   rintro e w6 ⟨rfl,be6⟩
   have HF:=hide (show TG=leB (Dig.val l5) 16 by rw[HTG.out,VAL5.out,HVAL.out,←HJ.out,HSV.out])
   have BE6:=hide (BE3.out.trans ((BE5.out.trans (be6.mono BE5.out.size)).mono BE3.out.size))
   clear be6
   go_wp2
   refine bodyPost_ret (results_tmp2 rfl _ _ _) rfl ?_
   rw[HF.out]
   exact ⟨rfl,BE6.out⟩
def sm:Nat→(Nat→Nat)→Nat
 | 0,_=>0
 | n+1,f=>sm n f+f n
theorem sm_congr {n:Nat} {f g:Nat→Nat} (h:∀ i,i<n→f i=g i):sm n f=sm n g:=by
 induction n with
 | zero=>rfl
 | succ n ih=>rw[sm,sm,ih (fun i hi=>h i (by omega)),h n (by omega)]
theorem sm_add (n:Nat) (f g:Nat→Nat):sm n (fun i=>f i+g i)=sm n f+sm n g:=by
 induction n with
 | zero=>rfl
 | succ n ih=>rw[sm,sm,sm,ih];omega
theorem sm_mul (n c:Nat) (f:Nat→Nat):sm n (fun i=>c*f i)=c*sm n f:=by
 induction n with
 | zero=>rfl
 | succ n ih=>rw[sm,sm,ih,Nat.mul_add]
theorem sm_zero (n:Nat):sm n (fun _=>0)=0:=by
 induction n with
 | zero=>rfl
 | succ n ih=>rw[sm,ih]
theorem sm_swap (n m:Nat) (f:Nat→Nat→Nat):sm n (fun i=>sm m (fun j=>f i j))=sm m (fun j=>sm n (fun i=>f i j)):=by
 induction n with
 | zero=>exact (sm_zero m).symm
 | succ n ih=>rw[sm,ih,←sm_add];rfl
theorem sm_split (p q:Nat) (f:Nat→Nat):sm (p+q) f=sm p f+sm q (fun i=>f (p+i)):=by
 induction q with
 | zero=>rfl
 | succ q ih=>rw[←Nat.add_assoc,sm,sm,ih];omega
theorem sm_le {n:Nat} {f:Nat→Nat} {c:Nat} (h:∀ i,i<n→f i≤c):sm n f≤n*c:=by
 induction n with
 | zero=>simp[sm]
 | succ n ih=>
  have:=ih (fun i hi=>h i (by omega))
  have h2:=h n (by omega)
  rw[sm,Nat.add_mul,Nat.one_mul]
  omega
theorem Dig.val_sm (l:List Nat) (n:Nat) (h:l.length≤n):Dig.val l=sm n (fun i=>256 ^ i*l.getD i 0):=by
 rw[←Dig.val_all l n h]
 clear h
 induction n with
 | zero=>rfl
 | succ n ih=>rw[Dig.val_take,ih,sm]
namespace Pol
def conv (a b:List Nat) (i:Nat):Nat:=sm (i+1) (fun j=>a.getD j 0*b.getD (i-j) 0)
def wrapc (a b:List Nat) (i m:Nat):Nat:=sm m (fun q=>a.getD (i+1+q) 0*b.getD (16-q) 0)
def mulD (a b:List Nat) (i:Nat):Nat:=conv a b i+320*wrapc a b i (16-i)
theorem row_sum (b:List Nat) (x j:Nat) (hj:j<17):
  sm 17 (fun i=>if j≤i then 256 ^ i*(x*b.getD (i-j) 0) else 256 ^ (17+i)*(x*b.getD (17+i-j) 0))=256 ^ j*x*sm 17 (fun k=>256 ^ k*b.getD k 0):=by
 obtain ⟨r,hr⟩:∃ r,17=j+r:=⟨17-j,by omega⟩
 conv=>lhs;rw[hr,sm_split]
 conv=>rhs;rw[hr,Nat.add_comm j r,sm_split,Nat.mul_add,←sm_mul,←sm_mul]
 rw[Nat.add_comm]
 congr 1
 ·refine sm_congr fun i hi=>?_
  rw[if_pos (by omega),show j+i-j=i by omega,Nat.pow_add]
  simp only[Nat.mul_assoc,Nat.mul_left_comm]
 ·refine sm_congr fun i hi=>?_
  rw[if_neg (by omega),show j+r+i-j=r+i by omega,show j+r+i=j+(r+i) by omega,Nat.pow_add]
  simp only[Nat.mul_assoc,Nat.mul_left_comm]
theorem sm_tail (i:Nat) (hi:i<17) (f:Nat→Nat):sm 17 f=sm (i+1) f+sm (16-i) (fun q=>f (i+1+q)):=by
 rw[←sm_split,show i+1+(16-i)=17 by omega]
theorem prod_val (a b:List Nat) (ha:a.length≤17) (hb:b.length≤17):Dig.val a*Dig.val b=sm 17 (fun i=>256 ^ i*conv a b i)+256 ^ 17*sm 17 (fun i=>256 ^ i*wrapc a b i (16-i)):=by
 have h1:Dig.val a*Dig.val b=sm 17 (fun j=>sm 17 (fun i=>if j≤i then 256 ^ i*(a.getD j 0*b.getD (i-j) 0) else 256 ^ (17+i)*(a.getD j 0*b.getD (17+i-j) 0))):=by
  rw[sm_congr (fun j hj=>row_sum b (a.getD j 0) j hj),←Dig.val_sm b 17 hb]
  rw[sm_congr (g:=fun j=>Dig.val b*(256 ^ j*a.getD j 0)) (fun j _=>Nat.mul_comm _ _),sm_mul,←Dig.val_sm a 17 ha,Nat.mul_comm]
 rw[h1,sm_swap,←sm_mul,←sm_add]
 refine sm_congr fun i hi=>?_
 rw[sm_tail i hi]
 congr 1
 ·rw[conv,←sm_mul]
  refine sm_congr fun j hj=>?_
  rw[if_pos (by omega)]
 ·rw[wrapc,←sm_mul,←sm_mul]
  refine sm_congr fun q hq=>?_
  rw[if_neg (by omega),show 17+i-(i+1+q)=16-q by omega,Nat.pow_add,Nat.mul_assoc]
theorem p136:256 ^ 17=320+P*64:=by unfold P;decide
theorem mulD_val (a b l:List Nat) (ha:a.length≤17) (hb:b.length≤17) (hl:l.length=17) (h:∀ i,i<17→l.getD i 0=mulD a b i):Dig.val l%P=Dig.val a*Dig.val b%P:=by
 have h1:Dig.val l=sm 17 (fun i=>256 ^ i*conv a b i)+320*sm 17 (fun i=>256 ^ i*wrapc a b i (16-i)):=by
  rw[Dig.val_sm l 17 (by omega),←sm_mul,←sm_add]
  refine sm_congr fun i hi=>?_
  rw[h i hi,mulD,Nat.mul_add,Nat.mul_left_comm]
 rw[prod_val a b ha hb,h1,p136,Nat.add_mul,←Nat.add_assoc,Nat.mul_assoc P,Nat.add_mul_mod_self_left]
theorem conv_le (a b:List Nat) (i:Nat) (ha:∀ j,a.getD j 0<512) (hb:∀ j,b.getD j 0<256) (k:Nat):sm k (fun j=>a.getD j 0*b.getD (i-j) 0)≤k*130305:=by
 refine sm_le fun j _=>?_
 have h1:=ha j
 have h2:=hb (i-j)
 exact Nat.le_trans (Nat.mul_le_mul (show a.getD j 0≤511 by omega) (show b.getD (i-j) 0≤255 by omega)) (by decide)
theorem wrapc_le (a b:List Nat) (i:Nat) (ha:∀ j,a.getD j 0<512) (hb:∀ j,b.getD j 0<256) (k:Nat):wrapc a b i k≤k*130305:=by
 refine sm_le fun j _=>?_
 have h1:=ha (i+1+j)
 have h2:=hb (16-j)
 exact Nat.le_trans (Nat.mul_le_mul (show a.getD (i+1+j) 0≤511 by omega) (show b.getD (16-j) 0≤255 by omega)) (by decide)
end Pol
theorem getD_set (l:List Nat) (i j x:Nat) (hi:i<l.length):(l.set i x).getD j 0=if j=i then x else l.getD j 0:=by
 rw[List.getD_eq_getElem?_getD,List.getD_eq_getElem?_getD,List.getElem?_set]
 by_cases h:i=j
 ·subst h;rw[if_pos rfl,if_pos hi,if_pos rfl];rfl
 ·rw[if_neg h,if_neg (fun e=>h e.symm)]
theorem Dig.val_put:∀ (l:List Nat) (i x:Nat),i<l.length→Dig.val (l.set i x)+256 ^ i*l.getD i 0=Dig.val l+256 ^ i*x
 | [],i,x,h=>absurd h (Nat.not_lt_zero _)
 | d::r,0,x,_=>by simp[Dig.val];omega
 | d::r,i+1,x,h=>by
  have ih:=Dig.val_put r i x (by simpa using h)
  show d+256*Dig.val (r.set i x)+256 ^ (i+1)*r.getD i 0=d+256*Dig.val r+256 ^ (i+1)*x
  rw[Nat.pow_succ,Nat.mul_comm (256 ^ i) 256,Nat.mul_assoc,Nat.mul_assoc]
  omega
namespace Pol
def Car (l:List Nat):Prop:=l.length=17∧∀ i,i<16→l.getD i 0<256
theorem take_lt (l:List Nat) (i:Nat) (h:∀ j,j<i→l.getD j 0<256):Dig.val (l.take i)<256 ^ i:=by
 induction i with
 | zero=>simp[Dig.val]
 | succ i ih=>
  have h1:=ih (fun j hj=>h j (by omega))
  have h2:=h i (by omega)
  rw[Dig.val_take,Nat.pow_succ]
  have h3:=Nat.mul_le_mul_left (256 ^ i) (show l.getD i 0+1≤256 by omega)
  rw[Nat.mul_add,Nat.mul_one] at h3
  omega
theorem val_top {l:List Nat} (h:l.length=17):Dig.val l=Dig.val (l.take 16)+256 ^ 16*l.getD 16 0:=by
 rw[←Dig.val_take,Dig.val_all l 17 (by omega)]
theorem Car.top {l:List Nat} (h:Car l):l.getD 16 0=Dig.val l/256 ^ 16:=by
 have h1:=take_lt l 16 h.2
 rw[val_top h.1,Nat.add_mul_div_left _ _ (by decide),Nat.div_eq_of_lt h1,Nat.zero_add]
theorem Car.digit {l:List Nat} (h:Car l) (i:Nat) (hi:i<16):l.getD i 0=Dig.val l/256 ^ i%256:=by
 have hp:0<256 ^ i:=Nat.pow_pos (by decide)
 have hl:i<l.length:=by rw[h.1];omega
 have h1:Dig.val l=Dig.val (l.take i)+256 ^ i*Dig.val (l.drop i):=by
  conv=>lhs;rw[←List.take_append_drop i l]
  rw[Dig.val_append,List.length_take,Nat.min_eq_left (Nat.le_of_lt hl)]
 have h2:Dig.val (l.drop i)=l.getD i 0+256*Dig.val (l.drop (i+1)):=by
  rw[List.drop_eq_getElem_cons hl,List.getD_eq_getElem?_getD,List.getElem?_eq_getElem hl]
  rfl
 rw[h1,Nat.add_mul_div_left _ _ hp,Nat.div_eq_of_lt (take_lt l i fun j hj=>h.2 j (by omega)),Nat.zero_add,h2,Nat.add_mul_mod_self_left,Nat.mod_eq_of_lt (h.2 i hi)]
def Carry (o c:List Nat) (i v:Nat):Prop:=c.length=17∧Dig.val c+256 ^ i*v=Dig.val o∧(∀ j,j<i→c.getD j 0<256)∧∀ j,i≤j→c.getD j 0=o.getD j 0
theorem Carry.start (o:List Nat) (h:o.length=17):Carry o o 0 0:=⟨h,by simp,fun j hj=>absurd hj (Nat.not_lt_zero _),fun _ _=>rfl⟩
theorem Carry.step {o c:List Nat} {i v:Nat} (h:Carry o c i v) (hi:i<16):Carry o (c.set i ((c.getD i 0+v)%256)) (i+1) ((c.getD i 0+v)/256):=by
 obtain ⟨h1,h2,h3,h4⟩:=h
 refine ⟨by simpa using h1,?_,fun j hj=>?_,fun j hj=>?_⟩
 ·have h5:=Dig.val_put c i ((c.getD i 0+v)%256) (by omega)
  have h6:=Nat.mod_add_div (c.getD i 0+v) 256
  generalize (c.getD i 0+v)%256=x at *
  generalize (c.getD i 0+v)/256=y at *
  rw[Nat.pow_succ,Nat.mul_assoc]
  have h7:256 ^ i*(x+256*y)=256 ^ i*c.getD i 0+256 ^ i*v:=by rw[h6,Nat.mul_add]
  rw[Nat.mul_add] at h7
  omega
 ·rw[getD_set _ _ _ _ (by omega)]
  split
  ·exact Nat.mod_lt _ (by decide)
  ·exact h3 j (by omega)
 ·rw[getD_set _ _ _ _ (by omega),if_neg (by omega)]
  exact h4 j (by omega)
theorem Carry.done {o c:List Nat} {v:Nat} (h:Carry o c 16 v):Car (c.set 16 (c.getD 16 0+v))∧Dig.val (c.set 16 (c.getD 16 0+v))=Dig.val o:=by
 obtain ⟨h1,h2,h3,h4⟩:=h
 refine ⟨⟨by simpa using h1,fun i hi=>?_⟩,?_⟩
 ·rw[getD_set _ _ _ _ (by omega),if_neg (by omega)]
  exact h3 i hi
 ·have h5:=Dig.val_put c 16 (c.getD 16 0+v) (by omega)
  rw[Nat.mul_add] at h5
  omega
theorem two130:256 ^ 16*4=P+5:=by unfold P;decide
def foldL (c:List Nat):List Nat:=(c.set 16 (c.getD 16 0%4)).set 0 (c.getD 0 0+5*(c.getD 16 0/4))
theorem foldL_len (c:List Nat):(foldL c).length=c.length:=by simp[foldL]
theorem foldL_val {c:List Nat} (h:c.length=17):Dig.val (foldL c)+P*(c.getD 16 0/4)=Dig.val c:=by
 have h1:=Dig.val_put c 16 (c.getD 16 0%4) (by omega)
 have h2:=Dig.val_put (c.set 16 (c.getD 16 0%4)) 0 (c.getD 0 0+5*(c.getD 16 0/4)) (by simp;omega)
 rw[getD_set _ _ _ _ (by omega),if_neg (by omega),Nat.pow_zero,Nat.one_mul,Nat.one_mul] at h2
 have h3:=Nat.mod_add_div (c.getD 16 0) 4
 unfold foldL
 generalize c.getD 16 0%4=x at *
 generalize c.getD 16 0/4=y at *
 have h4:256 ^ 16*c.getD 16 0=256 ^ 16*x+(P+5)*y:=by rw[←h3,Nat.mul_add,←Nat.mul_assoc,two130]
 rw[h4,Nat.add_mul] at h1
 generalize c.getD 0 0=z at *
 omega
theorem foldL_mod {c:List Nat} (h:c.length=17):Dig.val (foldL c)%P=Dig.val c%P:=by
 rw[←foldL_val h,Nat.add_mul_mod_self_left]
def Fold (l:List Nat):Prop:=Car l∧Dig.val l<2*P
theorem foldL_lt {c:List Nat} (h:Car c) (ht:c.getD 16 0<4294967296):Dig.val (foldL c)<2*P:=by
 have h1:=foldL_val h.1
 have h2:=take_lt c 16 h.2
 have h3:=val_top h.1
 have h4:=Nat.mod_add_div (c.getD 16 0) 4
 have h5:=Nat.mod_lt (c.getD 16 0) (show 0<4 by decide)
 have h6:c.getD 16 0/4<1073741824:=by omega
 generalize c.getD 16 0%4=x at *
 generalize c.getD 16 0/4=y at *
 have h7:256 ^ 16*c.getD 16 0=256 ^ 16*x+(P+5)*y:=by rw[←h4,Nat.mul_add,←Nat.mul_assoc,two130]
 have h8:256 ^ 16*x≤256 ^ 16*3:=Nat.mul_le_mul_left _ (by omega)
 have h9:256 ^ 16*3+256 ^ 16+5*1073741824<2*P:=by unfold P;decide
 rw[h7,Nat.add_mul] at h3
 omega
theorem Fold.top {l:List Nat} (h:Fold l):l.getD 16 0<8:=by
 rw[h.1.top]
 refine (Nat.div_lt_iff_lt_mul (by decide)).2 (Nat.lt_trans h.2 ?_)
 unfold P;decide
theorem Fold.at {l:List Nat} (h:Fold l) (i:Nat):l.getD i 0<256:=by
 rcases Nat.lt_or_ge i 16 with h1 | h1
 ·exact h.1.2 i h1
 ·rcases Nat.eq_or_lt_of_le h1 with h2 | h2
  ·subst h2;have:=h.top;omega
  ·rw[List.getD_eq_getElem?_getD,List.getElem?_eq_none (by have:=h.1.1;omega)];decide
theorem least_lt {l m:List Nat} (hm:Car m) (hv:Dig.val m=Dig.val l+5) (ht:m.getD 16 0<4):Dig.val l=Dig.val l%P:=by
 have h1:=take_lt m 16 hm.2
 have h2:=val_top hm.1
 have h3:256 ^ 16*m.getD 16 0≤256 ^ 16*3:=Nat.mul_le_mul_left _ (by omega)
 have h4:256 ^ 16*3+256 ^ 16=P+5:=by unfold P;decide
 rw[Nat.mod_eq_of_lt (by omega)]
theorem least_ge {l m:List Nat} (h:Fold l) (hm:Car m) (hv:Dig.val m=Dig.val l+5) (ht:¬ m.getD 16 0<4):Car (m.set 16 (m.getD 16 0-4))∧Dig.val (m.set 16 (m.getD 16 0-4))=Dig.val l%P:=by
 have h1:=Dig.val_put m 16 (m.getD 16 0-4) (by have:=hm.1;omega)
 have h2:256 ^ 16*m.getD 16 0=256 ^ 16*(m.getD 16 0-4)+(P+5):=by
  rw[←two130,←Nat.mul_add];congr 1;omega
 refine ⟨⟨by simpa using hm.1,fun i hi=>?_⟩,?_⟩
 ·rw[getD_set _ _ _ _ (by have:=hm.1;omega),if_neg (by omega)]
  exact hm.2 i hi
 ·have h3:=h.2
  have h4:P≤Dig.val l:=by
   have h5:=val_top hm.1
   have h6:256 ^ 16*4≤256 ^ 16*m.getD 16 0:=Nat.mul_le_mul_left _ (by omega)
   rw[two130] at h6
   omega
  rw[Nat.mod_eq_sub_mod h4,Nat.mod_eq_of_lt (by omega)]
  omega
theorem sum_val (a b l:List Nat) (ha:a.length≤17) (hb:b.length≤17) (hl:l.length=17) (h:∀ i,i<17→l.getD i 0=a.getD i 0+b.getD i 0):Dig.val l=Dig.val a+Dig.val b:=by
 rw[Dig.val_sm l 17 (by omega),Dig.val_sm a 17 ha,Dig.val_sm b 17 hb,←sm_add]
 exact sm_congr fun i hi=>by rw[h i hi,Nat.mul_add]
end Pol
theorem digitsOf_at (l:List UInt8) (i:Nat):(digitsOf l).getD i 0=(l.getD i 0).toNat:=by
 rw[List.getD_eq_getElem?_getD,List.getD_eq_getElem?_getD,digitsOf,List.getElem?_map]
 cases l[i]? <;> rfl
theorem list_getD {a b:List Nat} (h:a.length=b.length) (k:∀ i,i<a.length→a.getD i 0=b.getD i 0):a=b:=by
 refine List.ext_getElem h fun i h1 h2=>?_
 have:=k i h1
 rw[List.getD_eq_getElem?_getD,List.getD_eq_getElem?_getD,List.getElem?_eq_getElem h1,List.getElem?_eq_getElem h2] at this
 exact this
namespace Pol
def addAt (S:List Nat) (ds:List UInt8):List Nat:=(List.range 17).map fun i=>S.getD i 0+(ds.getD i 0).toNat
theorem addAt_len (S:List Nat) (ds:List UInt8):(addAt S ds).length=17:=by simp[addAt]
theorem addAt_at (S:List Nat) (ds:List UInt8) (i:Nat) (h:i<17):(addAt S ds).getD i 0=S.getD i 0+(ds.getD i 0).toNat:=by
 rw[List.getD_eq_getElem?_getD,addAt,List.getElem?_map,List.getElem?_range h]
 rfl
theorem addAt_nil (S:List Nat) (h:S.length=17):addAt S []=S:=list_getD (by rw[addAt_len,h]) fun i hi=>by
 rw[addAt_at _ _ _ (by rw[addAt_len] at hi;exact hi)]
 rfl
theorem addAt_next (S:List Nat) (ds:List UInt8) (h:ds.length<17):(addAt S ds).getD ds.length 0=S.getD ds.length 0:=by
 rw[addAt_at _ _ _ h,List.getD_eq_getElem?_getD (l:=ds),List.getElem?_eq_none (Nat.le_refl _)]
 rfl
theorem addAt_snoc (S:List Nat) (ds:List UInt8) (x:UInt8) (h:ds.length<17):(addAt S ds).set ds.length (S.getD ds.length 0+x.toNat)=addAt S (ds++[x]):=by
 refine list_getD (by simp[addAt]) fun i hi=>?_
 have hi17:i<17:=by rw[List.length_set,addAt_len] at hi;exact hi
 rw[getD_set _ _ _ _ (by rw[addAt_len];exact h),addAt_at _ _ _ hi17,addAt_at _ _ _ hi17]
 rw[List.getD_eq_getElem?_getD (l:=ds++[x])]
 by_cases he:i=ds.length
 ·subst he
  rw[if_pos rfl,List.getElem?_append_right (Nat.le_refl _)]
  simp
 ·rw[if_neg he]
  by_cases hlt:i<ds.length
  ·rw[List.getElem?_append_left hlt,←List.getD_eq_getElem?_getD]
  ·rw[List.getElem?_append_right (by omega),List.getD_eq_getElem?_getD (l:=ds),List.getElem?_eq_none (l:=ds) (by omega),List.getElem?_eq_none (l:=[x]) (by simp;omega)]
theorem addAt_val (S:List Nat) (ds:List UInt8) (hS:S.length=17) (h:ds.length≤17):Dig.val (addAt S ds)=Dig.val S+Dig.val (digitsOf ds):=
 sum_val S (digitsOf ds) (addAt S ds) (by omega) (by rw[digitsOf_len];exact h) (addAt_len _ _) fun i hi=>by rw[addAt_at _ _ _ hi,digitsOf_at]
theorem num_pre (l x:List UInt8) (j:Nat) (h:16*(j+1)≤l.length):num (l++x) j=num l j:=by
 unfold num
 rw[List.drop_append_of_le_length (by omega),List.take_append_of_le_length (by simp;omega)]
theorem acc_pre (r:Nat) (l x:List UInt8):∀ j,16*j≤l.length→acc r (l++x) j=acc r l j
 | 0,_=>rfl
 | j+1,h=>by rw[acc,acc,acc_pre r l x j (by omega),num_pre l x j h]
def rest (l:List UInt8):List UInt8:=l.drop (16*(l.length/16))
theorem rest_len (l:List UInt8):(rest l).length=l.length%16:=by unfold rest;rw[List.length_drop];omega
def Sum (r:Nat) (l:List UInt8) (D:List Nat):Prop:=∃ S,Fold S∧Dig.val S%P=acc r l (l.length/16)∧D=addAt S (rest l)
theorem rest_snoc (l:List UInt8) (x:UInt8) (h:(l.length+1)%16≠0):rest (l++[x])=rest l++[x]:=by
 unfold rest
 rw[List.length_append,List.length_singleton,show (l.length+1)/16=l.length/16 by omega,List.drop_append_of_le_length (by omega)]
theorem rest_full (l:List UInt8) (x:UInt8) (h:(l.length+1)%16=0):rest (l++[x])=[]:=by
 unfold rest
 rw[List.length_append,List.length_singleton]
 exact List.drop_of_length_le (by simp;omega)
theorem Sum.start (r:Nat):Sum r [] (List.replicate 17 0):=by
 refine ⟨List.replicate 17 0,⟨⟨rfl,fun i hi=>?_⟩,?_⟩,?_,?_⟩
 ·rw[List.getD_eq_getElem?_getD,List.getElem?_replicate];split <;> decide
 ·unfold P;decide
 ·show Dig.val (List.replicate 17 0)%P=0
  decide
 ·decide
theorem Sum.len {r:Nat} {l:List UInt8} {D:List Nat} (h:Sum r l D):D.length=17:=by
 obtain ⟨S,_,_,rfl⟩:=h
 exact addAt_len _ _
theorem Sum.lt {r:Nat} {l:List UInt8} {D:List Nat} (h:Sum r l D) (i:Nat):D.getD i 0<511:=by
 obtain ⟨S,h1,_,rfl⟩:=h
 by_cases hi:i<17
 ·rw[addAt_at _ _ _ hi]
  have h2:=h1.at i
  have h3:=UInt8.toNat_lt ((rest l).getD i 0)
  omega
 ·rw[List.getD_eq_getElem?_getD,List.getElem?_eq_none (by rw[addAt_len];omega)];decide
theorem Sum.next {r:Nat} {l:List UInt8} {D:List Nat} (h:Sum r l D):D.getD (l.length%16) 0<256:=by
 obtain ⟨S,h1,_,rfl⟩:=h
 have h2:=addAt_next S (rest l) (by rw[rest_len];omega)
 rw[rest_len] at h2
 rw[h2]
 exact h1.at _
theorem Sum.take {r:Nat} {l:List UInt8} {D:List Nat} (h:Sum r l D) (x:UInt8) (hn:(l.length+1)%16≠0):Sum r (l++[x]) (D.set (l.length%16) (D.getD (l.length%16) 0+x.toNat)):=by
 obtain ⟨S,h1,h2,rfl⟩:=h
 refine ⟨S,h1,?_,?_⟩
 ·rw[List.length_append,List.length_singleton,show (l.length+1)/16=l.length/16 by omega,acc_pre _ _ _ _ (by omega),h2]
 ·have h3:=addAt_snoc S (rest l) x (by rw[rest_len];omega)
  have h4:=addAt_next S (rest l) (by rw[rest_len];omega)
  rw[rest_snoc l x hn,←h3,rest_len]
  rw[rest_len] at h4
  rw[h4]
theorem mod_step {a b n r:Nat} (h:a%P=b):(a+n)*r%P=(b+n)*r%P:=by
 rw[←h,Nat.mul_mod (a+n),Nat.mul_mod (a%P+n),Nat.mod_add_mod]
theorem Sum.full {r:Nat} {l:List UInt8} {D D1 D2 S':List Nat} (h:Sum r l D) (x:UInt8) (hn:(l.length+1)%16=0) (h1:D1=D.set (l.length%16) (D.getD (l.length%16) 0+x.toNat)) (h2:D2=D1.set 16 (D1.getD 16 0+1))
  (hf:Fold S') (hv:Dig.val S'%P=Dig.val D2*r%P):Sum r (l++[x]) S':=by
 obtain ⟨S,h3,h4,rfl⟩:=h
 have h5:=addAt_snoc S (rest l) x (by rw[rest_len];omega)
 have h6:=addAt_next S (rest l) (by rw[rest_len];omega)
 have hl:(rest l++[x]).length=16:=by rw[List.length_append,List.length_singleton,rest_len];omega
 have h7:=addAt_snoc S (rest l++[x]) 1 (by omega)
 have h8:=addAt_next S (rest l++[x]) (by omega)
 rw[hl] at h7 h8
 have h9:=addAt_val S (rest l++[x]++[1]) h3.1.1 (by rw[List.length_append,hl];exact Nat.le_refl _)
 rw[rest_len] at h5 h6
 rw[h6,h5] at h1
 subst h1
 rw[h8] at h2
 have e1:(1:UInt8).toNat=1:=rfl
 rw[e1] at h7
 rw[h7] at h2
 subst h2
 refine ⟨S',hf,?_,?_⟩
 ·rw[List.length_append,List.length_singleton,show (l.length+1)/16=l.length/16+1 by omega,acc,acc_pre _ _ _ _ (by omega),hv,h9]
  have e2:num (l++[x]) (l.length/16)=Dig.val (digitsOf (rest l++[x]++[1])):=by
   unfold num
   rw[List.drop_append_of_le_length (by omega)]
   show Dig.val (digitsOf ((rest l++[x]).take 16++[1]))=_
   rw[List.take_of_length_le (by omega)]
  rw[e2]
  exact mod_step h4
 ·rw[rest_full l x hn,addAt_nil _ hf.1.1]
theorem Sum.last {r:Nat} {l:List UInt8} {D D2 S':List Nat} (h:Sum r l D) (hn:l.length%16≠0) (h2:D2=D.set (l.length%16) (D.getD (l.length%16) 0+1)) (hv:Dig.val S'%P=Dig.val D2*r%P):
  Dig.val S'%P=acc r l ((l.length+15)/16):=by
 obtain ⟨S,h3,h4,rfl⟩:=h
 have h5:=addAt_snoc S (rest l) 1 (by rw[rest_len];omega)
 have h6:=addAt_next S (rest l) (by rw[rest_len];omega)
 have h9:=addAt_val S (rest l++[1]) h3.1.1 (by rw[List.length_append,rest_len];simp;omega)
 rw[rest_len] at h5 h6
 have e1:(1:UInt8).toNat=1:=rfl
 rw[e1] at h5
 rw[h6,h5] at h2
 subst h2
 rw[show (l.length+15)/16=l.length/16+1 by omega,acc,hv,h9]
 have e2:num l (l.length/16)=Dig.val (digitsOf (rest l++[1])):=by
  unfold num
  show Dig.val (digitsOf ((rest l).take 16++[1]))=_
  rw[List.take_of_length_le (by rw[rest_len];omega)]
 rw[e2]
 exact mod_step h4
theorem Sum.whole {r:Nat} {l:List UInt8} {D:List Nat} (h:Sum r l D) (hn:l.length%16=0):Fold D∧Dig.val D%P=acc r l ((l.length+15)/16):=by
 obtain ⟨S,h3,h4,rfl⟩:=h
 have h0:rest l=[]:=List.eq_nil_of_length_eq_zero (by rw[rest_len];exact hn)
 rw[h0,addAt_nil _ h3.1.1]
 exact ⟨h3,by rw[h4,show (l.length+15)/16=l.length/16 by omega]⟩
end Pol
namespace Pol
def Cl1 (d c:List Nat) (i:Nat):Prop:=c.length=17∧∀ j,c.getD j 0=if j%4=3∧j<i then d.getD j 0%16 else d.getD j 0
def Cl2 (d c:List Nat) (i:Nat):Prop:=c.length=17∧∀ j,j<16→c.getD j 0=if j%4=3 then d.getD j 0%16 else if j%4=0∧0<j∧j<i then d.getD j 0-d.getD j 0%4 else d.getD j 0
theorem Cl1.start (d:List Nat) (h:d.length=17):Cl1 d d 3:=⟨h,fun j=>by rw[if_neg (by omega)]⟩
theorem Cl1.at {d c:List Nat} {i:Nat} (h:Cl1 d c i):c.getD i 0=d.getD i 0:=by rw[h.2,if_neg (by omega)]
theorem Cl1.step {d c:List Nat} {i:Nat} (h:Cl1 d c i) (hi:i%4=3) (h16:i<16):Cl1 d (c.set i (d.getD i 0%16)) (i+4):=by
 refine ⟨by simpa using h.1,fun j=>?_⟩
 rw[getD_set _ _ _ _ (by have:=h.1;omega),h.2]
 by_cases he:j=i
 ·subst he;rw[if_pos rfl,if_pos ⟨hi,by omega⟩]
 ·rw[if_neg he]
  by_cases h1:j%4=3∧j<i
  ·rw[if_pos h1,if_pos ⟨h1.1,by omega⟩]
  ·rw[if_neg h1,if_neg (by omega)]
theorem Cl1.done {d c:List Nat} {i:Nat} (h:Cl1 d c i) (hi:16≤i):Cl2 d c 4:=by
 refine ⟨h.1,fun j hj=>?_⟩
 rw[h.2]
 by_cases h1:j%4=3
 ·rw[if_pos ⟨h1,by omega⟩,if_pos h1]
 ·rw[if_neg (fun e=>h1 e.1),if_neg h1,if_neg (by omega)]
theorem Cl2.at {d c:List Nat} {i:Nat} (h:Cl2 d c i) (hi:i%4=0) (h16:i<16):c.getD i 0=d.getD i 0:=by rw[h.2 i h16,if_neg (by omega),if_neg (by omega)]
theorem Cl2.step {d c:List Nat} {i:Nat} (h:Cl2 d c i) (hi:i%4=0) (h0:0<i) (h16:i<16):Cl2 d (c.set i (d.getD i 0-d.getD i 0%4)) (i+4):=by
 refine ⟨by simpa using h.1,fun j hj=>?_⟩
 rw[getD_set _ _ _ _ (by have:=h.1;omega),h.2 j hj]
 by_cases he:j=i
 ·subst he;rw[if_pos rfl,if_neg (by omega),if_pos ⟨hi,by omega,by omega⟩]
 ·rw[if_neg he]
  by_cases h1:j%4=3
  ·rw[if_pos h1,if_pos h1]
  ·rw[if_neg h1,if_neg h1]
   by_cases h2:j%4=0∧0<j∧j<i
   ·rw[if_pos h2,if_pos ⟨h2.1,h2.2.1,by omega⟩]
   ·rw[if_neg h2,if_neg (by omega)]
theorem clL_getD (l:List Nat) (i:Nat) (hl:l.length=16) (hi:i<16):(clL l 16).getD i 0=cl i (l.getD i 0):=by
 rw[List.getD_eq_getElem?_getD,List.getD_eq_getElem?_getD,clL,List.getElem?_mapIdx,List.getElem?_eq_getElem (by omega)]
 show (if i<16 then cl i _ else _)=_
 rw[if_pos hi]
 rfl
theorem cat0_getD (l:List Nat) (i:Nat):(l++[0]).getD i 0=l.getD i 0:=by
 rw[List.getD_eq_getElem?_getD,List.getD_eq_getElem?_getD]
 by_cases h:i<l.length
 ·rw[List.getElem?_append_left h]
 ·rw[List.getElem?_append_right (by omega),List.getElem?_eq_none (l:=l) (by omega)]
  rcases Nat.eq_zero_or_pos (i-l.length) with h1 | h1
  ·rw[h1];rfl
  ·rw[List.getElem?_eq_none (by simp;omega)]
theorem Cl2.done {l c:List Nat} {i:Nat} (hl:l.length=16) (h:Cl2 (l++[0]) c i) (hi:16≤i) (h16:c.getD 16 0=0):c=clL l 16++[0]:=by
 refine list_getD (by simp[clL,hl,h.1]) fun j hj=>?_
 rw[h.1] at hj
 rw[cat0_getD]
 by_cases he:j=16
 ·subst he
  rw[h16,List.getD_eq_getElem?_getD,List.getElem?_eq_none (by simp[clL,hl])]
  rfl
 ·rw[h.2 j (by omega),cat0_getD,clL_getD l j hl (by omega),cl]
  by_cases h1:j%4=3
  ·rw[if_pos h1,if_pos h1]
  ·rw[if_neg h1,if_neg h1]
   by_cases h2:j%4=0∧0<j
   ·rw[if_pos h2,if_pos ⟨h2.1,h2.2,by omega⟩]
   ·rw[if_neg h2,if_neg (fun e=>h2 ⟨e.1,e.2.1⟩)]
theorem val_cat0 (l:List Nat):Dig.val (l++[0])=Dig.val l:=by rw[Dig.val_snoc];omega
theorem and15 (x:Nat):x &&& 15=x%16:=Nat.and_two_pow_sub_one_eq_mod x 4
theorem and255 (x:Nat):x &&& 255=x%256:=Nat.and_two_pow_sub_one_eq_mod x 8
theorem and3 (x:Nat):x &&& 3=x%4:=Nat.and_two_pow_sub_one_eq_mod x 2
set_option maxRecDepth 100000 in
theorem and252 (x:Nat) (h:x<256):x &&& 252=x-x%4:=by
 have:∀ y:Fin 256,y.1 &&& 252=y.1-y.1%4:=by decide
 exact this ⟨x,h⟩
end Pol
theorem u8x (x c:UInt8):bits .xor .u8 ((x.toNat:Nat):Int) ((c.toNat:Nat):Int)=(((x ^^^ c).toNat:Nat):Int):=by
 rw[u8_xor_nat _ _ (UInt8.toNat_lt x) (UInt8.toNat_lt c),UInt8.toNat_xor]
theorem step_append_u8 {ops:Array Oper} {o:Oper} {a:Act} {w:World} {K:Act→World→Prop} {Q:Exit→Act→World→Prop} {E:Prop} (hgd:o.guard=none) (s x:Operand)
  (ho:o.op = .call { callee:=.builtin .append,args:=#[s,x],argTypes:=#[62,62] })
  (base:Nat) (v:Value) (n:Nat) (xs:List UInt8) (hs:a.eval s=v) (hown:Row w base 5 1 v n (u8L xs))
  (ad:Addr) (m c:Nat) (news:List UInt8) (hx:a.eval x = .slice (some ad) m c) (hl:news.length=m) (hnew:∀ j u,(u8L news)[j]? = some u→w.cell? (ad.add j)=some u) (hn:n+m≤1099511627776) (hbase:base≤w.heap.size)
  (h:∀ v' w',Row w' base 5 1 v' (n+m) (u8L (xs++news))→w.grownBy w' v.ownBlock→(v'.ownBlock=v.ownBlock∨∃ g,v'.ownBlock=some g∧w.heap.size≤g)→K (a.put o.dst v') w'):
  if Region.wanted o (yielded ops a.tmps)=true then Oper.wp Tryz.prog o a w K Q else E:=by
 rw[if_pos (by simp[Region.wanted,hgd])]
 obtain ⟨i0,hi,hz0,hz1,hz2⟩:=info_parts infoU8
 refine wp_append_row s x 62 ho i0 (.int .u8 0) 1 Tryz.underlying62 hi hz0 hz1 hz2 rfl (by decide) v n (u8L xs) hs hown ad m c (u8L news) hx (by simp[u8L,hl]) hnew (u8L_one _) ?_ ?_ hbase ?_
 ·unfold maxLen;omega
 ·omega
 ·intro v' w' h1 h2 h3
  exact h v' w' (by rw[u8L_append];exact h1) h2 h3
namespace Cha
def ks (key nonce:List UInt8) (n p:Nat):UInt8:=(block key nonce (n+p/64)).getD (p%64) 0
def xorL (key nonce:List UInt8) (n from_:Nat) (text:List UInt8) (k:Nat):List UInt8:=(List.range k).map fun i=>text.getD i 0 ^^^ ks key nonce n (from_+i)
theorem xorL_succ (key nonce:List UInt8) (n from_:Nat) (text:List UInt8) (k:Nat):xorL key nonce n from_ text (k+1)=xorL key nonce n from_ text k++[text.getD k 0 ^^^ ks key nonce n (from_+k)]:=by simp[xorL,List.range_succ]
end Cha
theorem xor_nums (n from_ i:Nat) (hf:from_≤274877906944) (h:n+(from_+i)/64≤4294967295):∃ p ix pq nb:Nat,p=from_+i∧ix=p%64∧nb=n+p/64 ∧
  IntKind.i64.wrap ((from_:Int)+(i:Int))=(p:Int)∧(p:Int).tmod 64=(ix:Int)∧(p:Int).tdiv 64=(pq:Int)∧IntKind.i64.wrap ((n:Int)+(pq:Int))=(nb:Int)∧wrap64 (pq:Int)=(pq:Int)∧wrap64 ((n:Int)+(pq:Int))=(nb:Int)∧ix<64∧nb≤4294967295:=by
 refine ⟨from_+i,(from_+i)%64,(from_+i)/64,n+(from_+i)/64,rfl,rfl,rfl,?_,?_,?_,?_,?_,?_,Nat.mod_lt _ (by decide),h⟩
 ·exact (IntWalk.i64_in _ (by omega)).trans (by omega)
 ·rw[Int.tmod_eq_emod_of_nonneg (by omega)];omega
 ·rw[Int.tdiv_eq_ediv_of_nonneg (by omega)];omega
 ·exact (IntWalk.i64_in _ (by omega)).trans (by omega)
 ·exact IntWalk.wrap64_in _ (by omega)
 ·exact (IntWalk.wrap64_in _ (by omega)).trans (by omega)
theorem same_block (n from_ i nb p:Nat) (hp:p=from_+i) (hnb:nb=n+p/64) (hix:p%64≠0):n+(from_+i-1)/64=nb:=by omega
set_option maxRecDepth 100000 in
set_option maxHeartbeats 1000000 in
theorem chaXor_any (key nonce:ByteArray) (n from_:Nat) (text:ByteArray) (w:World) (hk:key.size=32) (hno:nonce.size=12) (hn:n≤4294967295) (ht:text.size≤1099511627) (h:from_+text.size≤(4294967296-n)*64):
  Calls Tryz.prog 62 #[.string key,.string nonce,.int .i64 (n:Nat),.int .i64 (from_:Nat),.string text] w fun e w'=>e = .returned (.tuple #[.string ⟨(Cha.xorL key.data.toList nonce.data.toList n from_ text.data.toList text.size).toArray⟩,.int .i64 0])∧Below w.heap.size w w':=by
 obtain ⟨L,hL⟩:∃ L:Nat,L=(4294967296-n)*64:=⟨_,rfl⟩
 obtain ⟨d,hd⟩:∃ d:Nat,d=4294967296-n:=⟨_,rfl⟩
 have t1:IntKind.i64.wrap ((from_:Int)+(text.size:Int))=(from_:Int)+(text.size:Int):=IntWalk.i64_in _ (by omega)
 have t2:IntKind.i64.wrap (4294967296-(n:Int))=(d:Int):=(IntWalk.i64_in _ (by omega)).trans (by omega)
 have t3:IntKind.i64.wrap ((d:Int)*64)=(L:Int):=(IntWalk.i64_in _ (by omega)).trans (by omega)
 have j:¬ (L:Int)<(from_:Int)+(text.size:Int):=by omega
 have HBK:=hide (fun p (hp:n+p/64≤4294967295) w=>chaBlock_any key nonce (n+p/64) w hk hno hp)
 have HKL:=hide (fun p=>Cha.block_len key.data.toList nonce.data.toList (n+p/64))
 have HKS:=hide (show ∀ p,Cha.ks key.data.toList nonce.data.toList n p=(Cha.block key.data.toList nonce.data.toList (n+p/64)).getD (p%64) 0 from fun _=>rfl)
 have HXS:=hide (Cha.xorL_succ key.data.toList nonce.data.toList n from_ text.data.toList)
 have HX0:=hide (show Cha.xorL key.data.toList nonce.data.toList n from_ text.data.toList 0=[] from rfl)
 have hbound:∀ i,i<text.size→n+(from_+i)/64≤4294967295:=fun i hi=>by omega
 have hfrom:from_≤274877906944:=by omega
 have HBD:=hide hbound
 have HH:=hide h
 generalize Cha.xorL key.data.toList nonce.data.toList n from_ text.data.toList=xl at *
 generalize Cha.ks key.data.toList nonce.data.toList n=kst at *
 generalize Cha.block key.data.toList nonce.data.toList=blk at *
 clear hk hno hbound hL hd h
 go_enter Tryz.func62,Tryz.ntmps62
 go_wp2
 clear t1 t2 t3 j
 go_loopw [12,13,14] (fun vo vk vi wr=>∃ (i:Nat) (kb:ByteArray),i≤text.size∧vi = .int .i64 (i:Nat)∧vk = .string kb∧(i=0∨kb.data.toList=blk (n+(from_+i-1)/64))∧Row wr w.heap.size 5 1 vo i (u8L (xl i))∧Below w.heap.size w wr) (fun _ _ i _=>text.size-(intOf i).toNat)
 case atStart=>exact ⟨0,⟨#[]⟩,by omega,rfl,rfl,.inl rfl,by rw[HX0.out];exact Row.nil _ _ _ _,Below.refl _ _⟩
 case round=>
  obtain ⟨i,kb,hi,rfl,rfl,hkb,hrow,hbe⟩:=hrel
  by_cases hlt:i<text.size
  ·have hpb0:=HBD.out i hlt
   obtain ⟨p,ix,pq,nb,hp,hix,hnb,q0,q1,q2,q3,q4,q5,hix64,hpb⟩:=xor_nums n from_ i hfrom hpb0
   clear hpb0
   have jt:(i:Int)<(text.size:Int):=by omega
   have hblen:=HKL.out p
   rw[←hnb] at hblen
   have HKS2:=hide (HKS.out p)
   rw[←hnb,←hix] at HKS2
   have HX:=hide (HXS.out i)
   rw[←hp] at HX
   have HP:=hide hp
   have HNB:=hide hnb
   have HIX:=hide hix
   have hit:i<text.data.toList.length:=by rw[Array.length_toList];exact hlt
   by_cases hc:i=0∨ix=0
   ·by_cases h0:i=0
    ·have z1:((i:Int)==0)=true:=by rw[h0];rfl
     clear h0
     have HBK2:=hide (HBK.out p (by rw[←hnb];exact hpb))
     rw[←hnb] at HBK2
     have HROW0:=hide hrow
     have HBE0:=hide hbe
     clear hrow hbe hkb hp hix hnb hc
     go_wp2_with fail
     refine (HBK2.out _).mono ?_
     rintro e w2 ⟨rfl,hb2⟩
     obtain ⟨kb2,hkb2⟩:∃ kb2:ByteArray,kb2=⟨(blk nb).toArray⟩:=⟨_,rfl⟩
     rw[←hkb2]
     have HKB0:=hide (show kb2.data.toList=blk nb by rw[hkb2])
     have HROW:=hide (HROW0.out.kept (hb2.grownBy none) (by cases hv:Value.ownBlock _ <;> simp))
     have HBE:=hide (HBE0.out.trans (hb2.mono HBE0.out.size))
     clear hkb2 hb2 HROW0 HBE0 HBK2
     have hkz:kb2.size=64:=by
      show kb2.data.size=64
      rw[←Array.length_toList,HKB0.out]
      exact hblen
     have hixk:ix<kb2.size:=by rw[hkz];exact hix64
     have e1:=byte_at text i hlt
     have e2:=byte_at kb2 ix hixk
     have hx2:xl (i+1)=xl i++[text[i] ^^^ kb2[ix]]:=by rw[HX.out,HKS2.out,e1,e2,HKB0.out]
     have HX2:=hide hx2
     have tt:=u8x text[i] kb2[ix]
     have HKB:=hide (show kb2.data.toList=blk (n+(from_+(i+1)-1)/64) by rw[HKB0.out,HNB.out,HP.out];rfl)
     clear hx2 e1 e2 hblen HX HKS2 HKB0
     generalize text[i] ^^^ kb2[ix]=y at *
     have jx:(ix:Int)<(kb2.size:Int):=by omega
     clear hkz
     go_wp2
     go_region_law (refine step_append_u8 rfl (.tmp 50) (.tmp 59) rfl w.heap.size _ i _ rfl (HROW.out.drew.alloc _) ⟨w2.heap.size,0,none⟩ 1 1 [y] rfl rfl (one_news rfl (World.cell?_alloc_at _ _ _ _ rfl)) ?_ ?_ ?_;omega;(have:=HBE.out.size;simp;omega);intro v1 w5 hr1 hg1 hat1)
     all_goals
      go_wp2
      go_roundw
      case rel=>
       refine ⟨i+1,kb2,by omega,by first | rfl | go_num,rfl,.inr HKB.out,?_,?_⟩
       ·rw[HX2.out]
        exact hr1
       ·have hz:=HBE.out.size
        exact Below.grown (HBE.out.drew.alloc (by simpa using hz) _) hg1 (by simp;omega) (fun k hk=>(HROW.out.lt k hk).1)
      case measure=>simp[intOf];omega
    ·have z1:((i:Int)==0)=false:=beq_eq_false_iff_ne.2 (by omega)
     have z2:((ix:Int)==0)=true:=beq_iff_eq.2 (by omega)
     clear h0
     have HBK2:=hide (HBK.out p (by rw[←hnb];exact hpb))
     rw[←hnb] at HBK2
     have HROW0:=hide hrow
     have HBE0:=hide hbe
     clear hrow hbe hkb hp hix hnb hc
     go_wp2_with fail
     refine (HBK2.out _).mono ?_
     rintro e w2 ⟨rfl,hb2⟩
     obtain ⟨kb2,hkb2⟩:∃ kb2:ByteArray,kb2=⟨(blk nb).toArray⟩:=⟨_,rfl⟩
     rw[←hkb2]
     have HKB0:=hide (show kb2.data.toList=blk nb by rw[hkb2])
     have HROW:=hide (HROW0.out.kept (hb2.grownBy none) (by cases hv:Value.ownBlock _ <;> simp))
     have HBE:=hide (HBE0.out.trans (hb2.mono HBE0.out.size))
     clear hkb2 hb2 HROW0 HBE0 HBK2
     have hkz:kb2.size=64:=by
      show kb2.data.size=64
      rw[←Array.length_toList,HKB0.out]
      exact hblen
     have hixk:ix<kb2.size:=by rw[hkz];exact hix64
     have e1:=byte_at text i hlt
     have e2:=byte_at kb2 ix hixk
     have hx2:xl (i+1)=xl i++[text[i] ^^^ kb2[ix]]:=by rw[HX.out,HKS2.out,e1,e2,HKB0.out]
     have HX2:=hide hx2
     have tt:=u8x text[i] kb2[ix]
     have HKB:=hide (show kb2.data.toList=blk (n+(from_+(i+1)-1)/64) by rw[HKB0.out,HNB.out,HP.out];rfl)
     clear hx2 e1 e2 hblen HX HKS2 HKB0
     generalize text[i] ^^^ kb2[ix]=y at *
     have jx:(ix:Int)<(kb2.size:Int):=by omega
     clear hkz
     go_wp2
     go_region_law (refine step_append_u8 rfl (.tmp 50) (.tmp 59) rfl w.heap.size _ i _ rfl (HROW.out.drew.alloc _) ⟨w2.heap.size,0,none⟩ 1 1 [y] rfl rfl (one_news rfl (World.cell?_alloc_at _ _ _ _ rfl)) ?_ ?_ ?_;omega;(have:=HBE.out.size;simp;omega);intro v1 w5 hr1 hg1 hat1)
     all_goals
      go_wp2
      go_roundw
      case rel=>
       refine ⟨i+1,kb2,by omega,by first | rfl | go_num,rfl,.inr HKB.out,?_,?_⟩
       ·rw[HX2.out]
        exact hr1
       ·have hz:=HBE.out.size
        exact Below.grown (HBE.out.drew.alloc (by simpa using hz) _) hg1 (by simp;omega) (fun k hk=>(HROW.out.lt k hk).1)
      case measure=>simp[intOf];omega
   ·have z1:((i:Int)==0)=false:=beq_eq_false_iff_ne.2 (by omega)
    have z2:((ix:Int)==0)=false:=beq_eq_false_iff_ne.2 (by omega)
    have HKB0:=hide (show kb.data.toList=blk nb by
     rcases hkb with h0 | h0
     ·exact absurd h0 (fun e=>hc (.inl e))
     ·rw[h0,same_block n from_ i nb p hp hnb (fun e=>hc (.inr (hix.trans e)))])
    have HROW:=hide hrow
    have HBE:=hide hbe
    clear hrow hbe hkb hp hix hnb hc
    have hkz:kb.size=64:=by
     show kb.data.size=64
     rw[←Array.length_toList,HKB0.out]
     exact hblen
    have hixk:ix<kb.size:=by rw[hkz];exact hix64
    have e1:=byte_at text i hlt
    have e2:=byte_at kb ix hixk
    have hx2:xl (i+1)=xl i++[text[i] ^^^ kb[ix]]:=by rw[HX.out,HKS2.out,e1,e2,HKB0.out]
    have HX2:=hide hx2
    have tt:=u8x text[i] kb[ix]
    have HKB:=hide (show kb.data.toList=blk (n+(from_+(i+1)-1)/64) by rw[HKB0.out,HNB.out,HP.out];rfl)
    clear hx2 e1 e2 hblen HX HKS2 HKB0
    generalize text[i] ^^^ kb[ix]=y at *
    have jx:(ix:Int)<(kb.size:Int):=by omega
    clear hkz
    go_wp2
    go_region_law (refine step_append_u8 rfl (.tmp 50) (.tmp 59) rfl w.heap.size _ i _ rfl (HROW.out.drew.alloc _) ⟨wr.heap.size,0,none⟩ 1 1 [y] rfl rfl (one_news rfl (World.cell?_alloc_at _ _ _ _ rfl)) ?_ ?_ ?_;omega;(have:=HBE.out.size;simp;omega);intro v1 w5 hr1 hg1 hat1)
    all_goals
     go_wp2
     go_roundw
     case rel=>
      refine ⟨i+1,kb,by omega,by first | rfl | go_num,rfl,.inr HKB.out,?_,?_⟩
      ·rw[HX2.out]
       exact hr1
      ·have hz:=HBE.out.size
       exact Below.grown (HBE.out.drew.alloc (by simpa using hz) _) hg1 (by simp;omega) (fun k hk=>(HROW.out.lt k hk).1)
     case measure=>simp[intOf];omega
  ·have hil:i=text.size:=by omega
   have HBE:=hide hbe
   rcases Nat.eq_zero_or_pos i with h0 | h0
   ·subst h0
    have HF:=hide (show (⟨(xl text.size).toArray⟩:ByteArray)=⟨#[]⟩ by rw[←hil,HX0.out])
    have jt:¬ (0:Int)<(text.size:Int):=by omega
    rcases hrow.2 with ⟨hnil,_⟩ | ⟨g,cap,cur,hv,hg1,hB,hc1,hc2,hc3,hc4⟩
    ·subst hnil
     have hcv2:(convert 62 9 (.slice none 0 0)).run Tryz.prog wr = .ok (.string ⟨#[]⟩) wr:=by
      rw[run_convert_bytes_string wr 62 9 5 none 0 0 Tryz.underlying62 Tryz.underlying5 Tryz.underlying9]
      rfl
     clear hrow hbe hkb hil hlt
     go_wp2
     refine bodyPost_ret (results_tmp2 rfl _ _ _) rfl ?_
     rw[HF.out]
     exact ⟨rfl,HBE.out⟩
    ·subst hv
     have hcv:=run_convert_bytes_back (P:=Tryz.prog) wr 62 9 5 ⟨g,0,none⟩ cap [] Tryz.underlying62 Tryz.underlying5 Tryz.underlying9 (fun j hj=>absurd hj (Nat.not_lt_zero _))
     have hcv2:(convert 62 9 (.slice (some ⟨g,0,none⟩) 0 cap)).run Tryz.prog wr = .ok (.string ⟨#[]⟩) wr:=hcv
     clear hrow hbe hkb hB hcv hil hlt
     go_wp2
     refine bodyPost_ret (results_tmp2 rfl _ _ _) rfl ?_
     rw[HF.out]
     exact ⟨rfl,HBE.out⟩
   ·obtain ⟨g4,cap4,rfl,hcv⟩:=Row.str hrow h0
    have jt:¬ (i:Int)<(text.size:Int):=by omega
    have HF:=hide (show xl text.size=xl i by rw[hil])
    clear hrow hbe hkb hil
    go_wp2
    refine bodyPost_ret (results_tmp2 rfl _ _ _) rfl ?_
    rw[HF.out]
    exact ⟨rfl,HBE.out⟩
end Go.Proofs.YtmjekklgefdolaaGreatDoor
