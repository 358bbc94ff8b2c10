import Derived.BigQuiet
import Derived.Test.YtoifalcpfnacnaaGreatDoorBa10
namespace Go.Proofs.YtoifalcpfnacnaaGreatDoor
open Go.RowKit
set_option maxHeartbeats 800000 in
theorem zeros_any (w:World):Calls Tryz.prog 33 #[] w fun e w'=>e = .returned (.string ⟨(nought 12).toArray⟩)∧Below w.heap.size w w':=by
 have hmk:(Instr.makeSlice 67 (.int .i64 12) (.int .i64 12)).run Tryz.prog w = .ok (.slice (some ⟨w.heap.size,0,none⟩) 12 12) (w.alloc (.cells (u8L (List.replicate 12 0)).toArray 5)):=make_bytes 12 (by decide) w
 have hB:Blk (w.alloc (.cells (u8L (List.replicate 12 0)).toArray 5)) w.heap.size 5 (u8L (List.replicate 12 0)):=Blk.new rfl rfl
 have hbe:Below w.heap.size w (w.alloc (.cells (u8L (List.replicate 12 0)).toArray 5)):=(Below.refl _ _).alloc (Nat.le_refl _) _
 obtain ⟨w1,hw1⟩:∃ x,w.alloc (.cells (u8L (List.replicate 12 0)).toArray 5)=x:=⟨_,rfl⟩
 rw[hw1] at hmk hB hbe
 have hR:Row w1 w.heap.size 5 1 (.slice (some ⟨w.heap.size,0,none⟩) 12 12) 12 (u8L (nought 12)):=Row.newB hB (Nat.le_refl _) (by decide)
 obtain ⟨ao,cap,h1,h2,h3,hcv⟩:=Row.strAny hR
 have HE:=hide hbe
 clear hw1 hB hR h1 h2 h3 hbe
 go_enter Tryz.func33,Tryz.ntmps33
 go_wp2
 go_ret
 exact ⟨rfl,HE.out⟩
theorem getD_take (T:List UInt8) {j i:Nat} (h:i<j):(T.take j).getD i 0=T.getD i 0:=by
 rw[List.getD_eq_getElem?_getD,List.getElem?_take,if_pos h,←List.getD_eq_getElem?_getD]
theorem Hd.line_take (T:List UInt8) (j:Nat):∀ i,i≤j→Hd.lineAt (T.take j) i=Hd.lineAt T i
 | 0,_=>rfl
 | i+1,h=>by
  show (if (T.take j).getD i 0=10 then i+1 else Hd.lineAt (T.take j) i)=(if T.getD i 0=10 then i+1 else Hd.lineAt T i)
  rw[Hd.line_take T j i (by omega),getD_take T (by omega)]
theorem Hd.whole_take (T:List UInt8) (m:Nat):Hd.wholeAt (T.take (m+1)) m↔Hd.wholeAt T m:=by
 unfold Hd.wholeAt
 rw[Hd.line_take T (m+1) m (by omega),getD_take T (by omega)]
 have hle:=Hd.lineAt_le T m
 constructor
 ·rintro ⟨h1,h2,h3⟩
  rw[List.drop_take,List.take_take,Nat.min_eq_left (by omega)] at h3
  exact ⟨h1,h2,h3⟩
 ·rintro ⟨h1,h2,h3⟩
  refine ⟨h1,h2,?_⟩
  rw[List.drop_take,List.take_take,Nat.min_eq_left (by omega)]
  exact h3
theorem getD_byte (t:ByteArray) (k:Nat) (hk:k<t.size):t.data.toList.getD k 0=t[k]:=by
 rw[List.getD_eq_getElem?_getD,List.getElem?_eq_getElem (by rw[ba_len];exact hk)]
 rfl
theorem whole_fin {t:ByteArray} {m:Nat} (h10:t.data.toList.getD m 0=10) (k:Nat) (hl:Hd.lineAt t.data.toList m=k) (bb:Bool) (hb:bb=decide (k+3≤m∧(t.data.toList.drop k).take 3=Hd.mark)):bb=decide (Hd.wholeAt t.data.toList m):=by
 have h:Hd.wholeAt t.data.toList m↔k+3≤m∧(t.data.toList.drop k).take 3=Hd.mark:=by unfold Hd.wholeAt;rw[h10,hl];simp
 rw[hb]
 by_cases h2:Hd.wholeAt t.data.toList m
 ·rw[decide_eq_true h2,decide_eq_true (h.1 h2)]
 ·rw[decide_eq_false h2,decide_eq_false (fun h3=>h2 (h.2 h3))]
set_option maxRecDepth 100000 in
set_option maxHeartbeats 1600000 in
theorem kwhole_any (t:ByteArray) (m:Nat) (w:World) (ht:t.size=m+1) (hm:m≤1000):
  Calls Tryz.prog 86 #[.string t] w fun e w'=>e = .returned (.bool (decide (Hd.wholeAt t.data.toList m)))∧w'=w:=by
 have hb:=getD_byte t
 obtain ⟨N,hN⟩:∃ N:Nat,t.size=N:=⟨_,rfl⟩
 have HN:=hide hN
 have z0:((N:Int)==0)=false:=beq_eq_false_iff_ne.2 (by omega)
 have n1:(N:Int)-1=(m:Int):=by omega
 have hmN:m<N:=by omega
 by_cases h10:t[m]=10
 ·have hX:t[m].toNat=10:=by rw[h10];rfl
  have HFIN:=hide (fun k hl bb hb'=>whole_fin (t:=t) (m:=m) (by rw[hb m (by omega),h10]) k hl bb hb')
  generalize decide (Hd.wholeAt t.data.toList m)=WB at HFIN ⊢
  have HEX:=hide (fun q=>show (t.extract q (q+3)).data.toList=(t.data.toList.drop q).take 3 by rw[sub_list,Nat.add_sub_cancel_left])
  have HB:=hide hb
  clear hb h10
  go_enter Tryz.func86,Tryz.ntmps86
  go_wp2
  go_loopw [4] (fun v wr=>wr=w∧∃ k:Nat,k≤m∧v = .int .i64 (k:Nat)∧Hd.lineAt t.data.toList m=Hd.lineAt t.data.toList k) (fun v _=>(intOf v).toNat)
  case atStart=>exact ⟨rfl,m,Nat.le_refl _,rfl,rfl⟩
  case round=>
   obtain ⟨rfl,k,hk,rfl,hlk⟩:=hrel
   have HLK:=hide hlk
   clear hlk
   obtain ⟨d,hd⟩:∃ d:Nat,d=m-k:=⟨_,rfl⟩
   have td:(m:Int)-(k:Int)=(d:Int):=by omega
   have HDD:=hide hd
   clear hd
   have HEX:=hide (HEX.out k)
   by_cases hk0:k=0
   ·subst hk0
    have hlm:Hd.lineAt t.data.toList m=0:=HLK.out
    by_cases h3:3≤d
    ·have j3:(3:Int)≤(d:Int):=by omega
     have j4:(0:Int)≤(0:Int)+3:=by omega
     have j5:(0:Int)+3≤(N:Int):=by omega
     by_cases hmk:(t.data.toList.drop 0).take 3=Hd.mark
     ·have he:t.extract 0 (0+3)=⟨#[45,45,45]⟩:=ba_ext (by rw[HEX.out,hmk];rfl)
      have HR:=hide (HFIN.out 0 hlm true (decide_eq_true (show 0+3≤m∧_ from ⟨by have:=HDD.out;omega,hmk⟩)).symm)
      clear hmk
      go_wp2
      go_ret
      exact ⟨by rw[←HR.out];rfl,rfl⟩
     ·have he:((t.extract 0 (0+3)).toList==[45,45,45])=false:=str_neL (by rw[HEX.out];exact hmk)
      have HR:=hide (HFIN.out 0 hlm false (decide_eq_false (show ¬ (0+3≤m∧_) from fun h=>hmk h.2)).symm)
      clear hmk
      go_wp2
      go_ret
      exact ⟨by rw[←HR.out];rfl,rfl⟩
    ·have j3:¬ (3:Int)≤(d:Int):=by omega
     have HR:=hide (HFIN.out 0 hlm false (decide_eq_false (show ¬ (0+3≤m∧_) from fun h=>by have:=h.1;have:=HDD.out;omega)).symm)
     go_wp2
     go_ret
     exact ⟨by rw[←HR.out];rfl,rfl⟩
   ·obtain ⟨p,hp⟩:∃ p:Nat,k=p+1:=⟨k-1,by omega⟩
    have tp:(k:Int)-1=(p:Int):=by omega
    have jk:(0:Int)<(k:Int):=by omega
    have hpN:p<N:=by omega
    have hpt:p<t.size:=by omega
    by_cases hp10:t[p]=10
    ·have hY:t[p].toNat=10:=by rw[hp10];rfl
     have hlm:Hd.lineAt t.data.toList m=k:=by
      rw[HLK.out,hp,Hd.lineAt,if_pos]
      rw[HB.out p hpt,hp10]
     clear hp10 hp
     by_cases h3:3≤d
     ·have j3:(3:Int)≤(d:Int):=by omega
      have j4:(k:Int)≤(k:Int)+3:=by omega
      have j5:(k:Int)+3≤(N:Int):=by omega
      by_cases hmk:(t.data.toList.drop k).take 3=Hd.mark
      ·have he:t.extract k (k+3)=⟨#[45,45,45]⟩:=ba_ext (by rw[HEX.out,hmk];rfl)
       have HR:=hide (HFIN.out k hlm true (decide_eq_true (show k+3≤m∧_ from ⟨by have:=HDD.out;omega,hmk⟩)).symm)
       clear hmk
       go_wp2
       go_ret
       exact ⟨by rw[←HR.out];rfl,rfl⟩
      ·have he:((t.extract k (k+3)).toList==[45,45,45])=false:=str_neL (by rw[HEX.out];exact hmk)
       have HR:=hide (HFIN.out k hlm false (decide_eq_false (show ¬ (k+3≤m∧_) from fun h=>hmk h.2)).symm)
       clear hmk
       go_wp2
       go_ret
       exact ⟨by rw[←HR.out];rfl,rfl⟩
     ·have j3:¬ (3:Int)≤(d:Int):=by omega
      have HR:=hide (HFIN.out k hlm false (decide_eq_false (show ¬ (k+3≤m∧_) from fun h=>by have:=h.1;have:=HDD.out;omega)).symm)
      go_wp2
      go_ret
      exact ⟨by rw[←HR.out];rfl,rfl⟩
    ·obtain ⟨Y,hY⟩:∃ Y:Nat,t[p].toNat=Y:=⟨_,rfl⟩
     have zY:((Y:Int)==10)=false:=beq_eq_false_iff_ne.2 (fun e=>hp10 (UInt8.toNat_inj.1 (by rw[hY];show Y=10;omega)))
     have zn:((Y:Int) != 10)=true:=by simp only[bne,zY];rfl
     have hnx:Hd.lineAt t.data.toList m=Hd.lineAt t.data.toList p:=by
      rw[HLK.out,hp,Hd.lineAt,if_neg]
      rw[HB.out p hpt]
      exact hp10
     have HNX:=hide hnx
     have HP:=hide hp
     clear hnx hp10 hp
     go_wp2
     go_roundw
     case rel=>
      (repeat apply Exists.intro)
      exact ⟨⟨trivial,p,by have:=HP.out;omega,rfl,HNX.out⟩,rfl⟩
     case measure=>have:=HP.out;simp[intOf];omega
 ·have hd:¬ Hd.wholeAt t.data.toList m:=fun h=>h10 (by rw[←hb m (by omega)];exact h.1)
  rw[decide_eq_false hd]
  obtain ⟨Y,hY⟩:∃ Y:Nat,t[m].toNat=Y:=⟨_,rfl⟩
  have zY:((Y:Int)==10)=false:=beq_eq_false_iff_ne.2 (fun e=>h10 (UInt8.toNat_inj.1 (by rw[hY];show Y=10;omega)))
  have zn:((Y:Int) != 10)=true:=by simp only[bne,zY];rfl
  clear hd hb h10
  go_enter Tryz.func86,Tryz.ntmps86
  go_wp2
  go_ret
  exact ⟨rfl,rfl⟩
def TopO (T:List UInt8) (r:Int):Prop:=(∃ k,k<T.length∧k<284∧Hd.wholeAt T k∧Hd.noneTo T k∧r=((k+1:Nat):Int))∨(Hd.noneTo T (min T.length 284)∧r = -1)
set_option maxRecDepth 100000 in
set_option maxHeartbeats 800000 in
theorem topOf_any (b:ByteArray) (w:World) (hb:b.size≤1099511627776):
  Calls Tryz.prog 52 #[.string b] w fun e w'=>∃ r,TopO b.data.toList r∧e = .returned (.int .i64 r)∧w'=w:=by
 obtain ⟨N,hN⟩:∃ N:Nat,b.size=N:=⟨_,rfl⟩
 have HN:=hide (show b.data.toList.length=N by rw[ba_len,hN])
 go_enter Tryz.func52,Tryz.ntmps52
 go_wp2
 go_loopw [3] (fun v wr=>wr=w∧∃ k:Nat,k≤284∧k≤N∧v = .int .i64 ((k+1:Nat):Int)∧Hd.noneTo b.data.toList k) (fun v _=>286-(intOf v).toNat)
 case atStart=>exact ⟨rfl,0,by decide,Nat.zero_le _,rfl,fun i hi=>absurd hi (Nat.not_lt_zero _)⟩
 case round=>
  obtain ⟨rfl,k,hk,hkN,rfl,hno⟩:=hrel
  have HNO:=hide hno
  clear hno
  obtain ⟨k1,hk1⟩:∃ k1:Nat,k1=k+1:=⟨_,rfl⟩
  rw[←hk1]
  by_cases hlt:k<N∧k<284
  ·have j1:(k1:Int)≤(N:Int):=by omega
   have j2:(k1:Int)≤284:=by omega
   have hxz:(b.extract 0 k1).size=k+1:=by rw[ByteArray.size_extract];omega
   have HWH:=hide (fun w=>kwhole_any (b.extract 0 k1) k w hxz (by omega))
   have HW2:=hide (show Hd.wholeAt (b.extract 0 k1).data.toList k↔Hd.wholeAt b.data.toList k by rw[ext_take,hk1];exact Hd.whole_take _ _)
   have HLT:=hide hlt
   have HK1:=hide hk1
   clear hlt hxz hk1
   by_cases hw:Hd.wholeAt b.data.toList k
   ·rw[decide_eq_true (HW2.out.2 hw)] at HWH
    have HW:=hide hw
    clear hw
    go_wp2_with fail
    refine (HWH.out _).mono ?_
    rintro e w1 ⟨rfl,rfl⟩
    clear HWH
    go_wp2
    go_ret
    exact ⟨_,.inl ⟨k,by rw[HN.out];exact HLT.out.1,HLT.out.2,HW.out,HNO.out,rfl⟩,by rw[←HK1.out];rfl,rfl⟩
   ·rw[decide_eq_false (fun h=>hw (HW2.out.1 h))] at HWH
    have HW:=hide hw
    clear hw
    go_wp2_with fail
    refine (HWH.out _).mono ?_
    rintro e w1 ⟨rfl,rfl⟩
    clear HWH
    go_wp2
    go_roundw
    case rel=>
     have h1:=HLT.out
     have h2:=HK1.out
     have hno:Hd.noneTo b.data.toList (k+1):=fun i hi=>by
      rcases Nat.lt_or_ge i k with h | h
      ·exact HNO.out i h
      ·obtain rfl:i=k:=by omega
       exact HW.out
     exact ⟨trivial,k+1,by omega,by omega,by rw[←h2];go_num,hno⟩
    case measure=>have:=HLT.out;have:=HK1.out;simp[intOf];omega
  ·have hmin:min N 284=k:=by omega
   have HM:=hide hmin
   by_cases h1:k<N
   ·have j1:(k1:Int)≤(N:Int):=by omega
    have j2:¬ (k1:Int)≤284:=by omega
    clear hmin hk1
    go_wp2
    go_ret
    exact ⟨-1,.inr ⟨by rw[HN.out,HM.out];exact HNO.out,rfl⟩,rfl,rfl⟩
   ·have j1:¬ (k1:Int)≤(N:Int):=by omega
    clear hmin hk1
    go_wp2
    go_ret
    exact ⟨-1,.inr ⟨by rw[HN.out,HM.out];exact HNO.out,rfl⟩,rfl,rfl⟩
theorem ext_drop (b:ByteArray) (a:Nat):(b.extract a b.size).data.toList=b.data.toList.drop a:=by rw[sub_list,List.take_of_length_le (by rw[List.length_drop,ba_len];exact Nat.le_refl _)]
theorem box_cut (b:ByteArray) (k:Nat) (hN:32*k≤b.size):(b.extract (32*k) b.size).size=b.size-32*k∧(b.extract (32*k) b.size).extract 0 32=⟨(Ref.boxI b.data.toList k).toArray⟩∧(b.extract (32*k) b.size).extract 32 (b.size-32*k)=b.extract (32*(k+1)) b.size:=by
 have hs:(b.extract (32*k) b.size).size=b.size-32*k:=by rw[ByteArray.size_extract];omega
 refine ⟨hs,?_,?_⟩
 ·apply ba_ext
  rw[ext_take,ext_drop]
  rfl
 ·apply ba_ext
  rw[sub_list,ext_drop,ext_drop,List.drop_drop,List.take_of_length_le (by rw[List.length_drop,ba_len];omega)]
  rfl
set_option maxRecDepth 100000 in
set_option maxHeartbeats 1600000 in
theorem boxes_any (b:ByteArray) (w:World) (hb:b.size≤34359738368):
  Calls Tryz.prog 55 #[.string b] w fun e w'=>∃ v,e = .returned v∧Row w' w.heap.size 9 1 v (Ref.boxN b.size) (strV (Ref.boxesL b.data.toList (Ref.boxN b.size)))∧Below w.heap.size w w':=by
 obtain ⟨N,hN⟩:∃ N:Nat,b.size=N:=⟨_,rfl⟩
 have hcut:=box_cut b
 rw[hN] at hcut hb ⊢
 have HCUT:=hide hcut
 have H0:=hide (show b=b.extract (32*0) N from ba_ext (by rw[sub_list,←hN,List.take_of_length_le (by rw[List.length_drop,ba_len];exact Nat.le_refl _)];rfl))
 have HLN:=hide (show b.data.toList.length=N by rw[ba_len,hN])
 clear hcut hN
 go_enter Tryz.func55,Tryz.ntmps55
 go_wp2
 go_loopw [0,3] (fun vb v wr=>∃ k:Nat,(k=0∨32*k<N)∧vb = .string (b.extract (32*k) N)∧Row wr w.heap.size 9 1 v k (strV (Ref.boxesL b.data.toList k))∧Below w.heap.size w wr) (fun vb _ _=>strLen vb)
 case atStart=>exact ⟨0,.inl rfl,by rw[←H0.out],Row.nil _ _ _ _,Below.refl _ _⟩
 case round=>
  clear H0
  obtain ⟨k,hk,rfl,hr,hbe⟩:=hrel
  have hkN:32*k≤N:=by omega
  obtain ⟨c1,c2,c3⟩:=HCUT.out k hkN
  have HR:=hide hr
  have HBE:=hide hbe
  have hsz:=hbe.size
  obtain ⟨ao,cap,rfl,hd1,hd2⟩:=Row.anyN hr
  unfold maxLen at hd2
  clear hr hbe
  by_cases hlt:32<N-32*k
  ·have j1:(32:Int)<((b.extract (32*k) N).size:Int):=by omega
   have j2:(32:Int)≤((b.extract (32*k) N).size:Int):=by omega
   rw[←c1] at c3
   have HNX:=hide (Ref.boxesL_succ b.data.toList k)
   have HC3:=hide c3
   have HLT:=hide hlt
   have HC1:=hide c1
   generalize hTX:b.extract (32*k) N=TX at *
   generalize (⟨(Ref.boxI b.data.toList k).toArray⟩:ByteArray)=BX at *
   clear c1 c3 hlt
   go_wp2_with (at_builtin;refine wpList_append_strB rfl (.tmp 7) (.tmp 10) rfl w.heap.size _ k _ rfl (HR.out.alloc _) wr.heap.size _ rfl (World.cell?_alloc_at _ _ _ _ rfl) ?_ ?_ ?_;omega;(simp;omega);intro v3 w3 hr3 hg3 hat3)
   go_roundw
   case rel=>
    have h1:=HLT.out
    refine ⟨k+1,by omega,by rw[HC3.out],?_,Below.grown (HBE.out.alloc hsz _) hg3 (by simp;omega) (fun k hk=>(HR.out.lt k hk).1)⟩
    rw[HNX.out]
    exact hr3
   case measure=>
    have h1:=HLT.out
    have h2:=HC1.out
    show strLen (.string (TX.extract 32 TX.size))<strLen (.string TX)
    show (TX.extract 32 TX.size).size<TX.size
    rw[ByteArray.size_extract]
    omega
  ·have j1:¬ (32:Int)<((b.extract (32*k) N).size:Int):=by omega
   by_cases h0:N-32*k=0
   ·have hN0:N=0:=by omega
    have hk0:k=0:=by omega
    have hTX:b.extract (32*k) N=ByteArray.empty:=ba_ext (by
     have h0:(b.extract (32*k) N).data.toList.length=0:=by rw[ba_len];omega
     rw[List.eq_nil_of_length_eq_zero h0]
     rfl)
    have HBN:=hide (show ∀ v,Row wr w.heap.size 9 1 v k (strV (Ref.boxesL b.data.toList k))→Row wr w.heap.size 9 1 v (Ref.boxN N) (strV (Ref.boxesL b.data.toList (Ref.boxN N))) from fun v h=>by rw[show Ref.boxN N=k by rw[hN0,hk0];rfl];exact h)
    rw[hTX]
    clear hTX c1 c2 c3 HCUT hN0 hk0 h0 hk
    go_wp2
    go_ret
    exact ⟨_,rfl,HBN.out _ HR.out,HBE.out⟩
   ·have zt:(b.extract (32*k) N).toList.isEmpty=false:=str_isne (fun e=>h0 (by
     have h0:(b.extract (32*k) N).data.toList.length=0:=by rw[e];rfl
     rw[ba_len] at h0
     omega))
    have HBN:=hide (show Ref.boxN N=k+1 by unfold Ref.boxN;omega)
    have hlast:b.extract (32*k) N=⟨(Ref.boxI b.data.toList k).toArray⟩:=by
     rw[←c2]
     exact ba_ext (by rw[ext_take,List.take_of_length_le (by rw[ba_len];omega)])
    have HNX:=hide (Ref.boxesL_succ b.data.toList k)
    rw[←hlast] at HNX
    generalize hTX:b.extract (32*k) N=TX at *
    clear hlast c1 c2 c3 HCUT
    go_wp2_with (at_builtin;refine wpList_append_strB rfl (.tmp 16) (.tmp 18) rfl w.heap.size _ k _ rfl (HR.out.alloc _) wr.heap.size _ rfl (World.cell?_alloc_at _ _ _ _ rfl) ?_ ?_ ?_;omega;(simp;omega);intro v3 w3 hr3 hg3 hat3)
    go_ret
    refine ⟨_,rfl,?_,Below.grown (HBE.out.alloc hsz _) hg3 (by simp;omega) (fun k hk=>(HR.out.lt k hk).1)⟩
    rw[HBN.out,HNX.out]
    exact hr3
theorem chunk_ext (t:ByteArray) (i:Nat):t.extract (16*i) (16*i+16)=⟨(Ref.chunkL t.data.toList i).toArray⟩:=ba_ext (by rw[sub_list,Nat.add_sub_cancel_left];rfl)
theorem chunk_end (t:ByteArray) (i:Nat) (h:t.size≤16*i+16):t.extract (16*i) t.size=⟨(Ref.chunkL t.data.toList i).toArray⟩:=ba_ext (by
 rw[sub_list]
 show _=(t.data.toList.drop (16*i)).take 16
 rw[List.take_of_length_le (by rw[List.length_drop,ba_len];exact Nat.le_refl _),List.take_of_length_le (by rw[List.length_drop,ba_len];omega)])
theorem chunk_void (t:ByteArray) (i:Nat) (h:t.size≤16*i):(⟨(Ref.chunkL t.data.toList i).toArray⟩:ByteArray)=⟨#[]⟩:=by
 unfold Ref.chunkL
 rw[List.drop_eq_nil_of_le (by rw[ba_len];exact h)]
 rfl
set_option maxHeartbeats 800000 in
theorem chunk_any (t:ByteArray) (i:Nat) (w:World) (ht:t.size≤1099511627776) (hi:i≤1099511627776):
  Calls Tryz.prog 75 #[.string t,.int .i64 (i:Nat)] w fun e w'=>e = .returned (.string ⟨(Ref.chunkL t.data.toList i).toArray⟩)∧w'=w:=by
 have hx1:=chunk_ext t i
 have hx2:=chunk_end t i
 have hx3:=chunk_void t i
 obtain ⟨p,hp⟩:∃ p:Nat,p=16*i:=⟨_,rfl⟩
 rw[←hp] at hx1 hx2 hx3
 have t1:(i:Int)*16=(p:Int):=by omega
 have hpb:p≤17592186044416:=by omega
 obtain ⟨N,hN⟩:∃ N:Nat,t.size=N:=⟨_,rfl⟩
 rw[hN] at hx2 hx3 ht
 by_cases h1:N<p
 ·have j1:(N:Int)<(p:Int):=by omega
  have j2:(N:Int)<(N:Int)+16:=by omega
  have hnn:t.extract N N=⟨#[]⟩:=ba_ext (by rw[sub_list,Nat.sub_self];rfl)
  have HX:=hide (hx3 (by omega))
  rw[HX.out]
  clear hx1 hx2 hx3 HX hp hi
  go_enter Tryz.func75,Tryz.ntmps75
  go_wp2
  go_ret
  first
   | exact ⟨rfl,rfl⟩
   | exact ⟨by rw[hnn],rfl⟩
 ·have j1:¬ (N:Int)<(p:Int):=by omega
  obtain ⟨q,hq⟩:∃ q:Nat,q=p+16:=⟨_,rfl⟩
  have t2:(p:Int)+16=(q:Int):=by omega
  by_cases h2:N<q
  ·have j2:(N:Int)<(q:Int):=by omega
   have j3:(p:Int)≤(N:Int):=by omega
   have HX:=hide (hx2 (by omega))
   clear hx1 hx2 hx3 hp hi hq
   go_enter Tryz.func75,Tryz.ntmps75
   go_wp2
   go_ret
   exact ⟨by rw[←HX.out];rfl,rfl⟩
  ·have j2:¬ (N:Int)<(q:Int):=by omega
   have j3:(p:Int)≤(q:Int):=by omega
   have j4:(q:Int)≤(N:Int):=by omega
   rw[←hq] at hx1
   have HX:=hide hx1
   clear hx1 hx2 hx3 hp hi hq
   go_enter Tryz.func75,Tryz.ntmps75
   go_wp2
   go_ret
   exact ⟨by rw[←HX.out];rfl,rfl⟩
def nonL (n j:Nat):List UInt8:=List.replicate (11-j) 0++Ref.nb n j++[0]
theorem nonL_len (n j:Nat) (h:j≤11):(nonL n j).length=12:=by unfold nonL;simp[Ref.nb_len];omega
theorem nonL_set (n j:Nat) (h:j<11):(nonL n j).set (10-j) (UInt8.ofNat (n/256 ^ j%256))=nonL n (j+1):=by
 unfold nonL
 rw[show 11-j=(10-j)+1 by omega,List.replicate_succ',List.append_assoc,List.append_assoc,List.set_append_right _ _ (by simp),List.length_replicate,Nat.sub_self,show 11-(j+1)=10-j by omega,List.append_assoc]
 rfl
theorem nonL_8 (n:Nat) (h:n<18446744073709551616):nonL n 8=Ref.nonce n false:=by
 unfold Ref.nonce nonL
 rw[Ref.nb_11 n h]
 rfl
theorem nonL_last (n:Nat) (h:n<18446744073709551616):(nonL n 8).set 11 1=Ref.nonce n true:=by
 rw[nonL_8 n h]
 unfold Ref.nonce
 rw[List.set_append_right _ _ (by rw[Ref.nb_len];exact Nat.le_refl _),Ref.nb_len]
 rfl
theorem shr8 (n j:Nat):((n/256 ^ j:Nat):Int)/2 ^ 8=((n/256 ^ (j+1):Nat):Int):=by
 rw[Nat.pow_succ,←Nat.div_div_eq_div_mul]
 omega
theorem byte_mod (q:Nat):((q:Nat):Int)%256=(((UInt8.ofNat (q%256)).toNat:Nat):Int):=by
 simp
set_option maxRecDepth 100000 in
set_option maxHeartbeats 1600000 in
theorem knonce_any (n:Nat) (last:Bool) (w:World) (hn:n≤1125899906842624):
  Calls Tryz.prog 74 #[.int .i64 (n:Nat),.bool last] w fun e w'=>e = .returned (.string ⟨(Ref.nonce n last).toArray⟩)∧Below w.heap.size w w':=by
 have hmk:(Instr.makeSlice 67 (.int .i64 12) (.int .i64 12)).run Tryz.prog w = .ok (.slice (some ⟨w.heap.size,0,none⟩) 12 12) (w.alloc (.cells (u8L (List.replicate 12 0)).toArray 5)):=make_bytes 12 (by decide) w
 have hB:Blk (w.alloc (.cells (u8L (List.replicate 12 0)).toArray 5)) w.heap.size 5 (u8L (nonL n 0)):=Blk.new rfl rfl
 have hbe:Below w.heap.size w (w.alloc (.cells (u8L (List.replicate 12 0)).toArray 5)):=(Below.refl _ _).alloc (Nat.le_refl _) _
 have H0:=hide (And.intro hB hbe)
 clear hB hbe
 go_enter Tryz.func74,Tryz.ntmps74
 go_wp2
 clear hmk
 go_loopw [0,6] (fun vn vi wr=>∃ j:Nat,j≤8∧vn = .int .i64 ((n/256 ^ j:Nat):Int)∧vi = .int .i64 (10-(j:Int))∧Blk wr w.heap.size 5 (u8L (nonL n j))∧Below w.heap.size w wr) (fun _ vi _=>(intOf vi+1).toNat)
 case atStart=>exact ⟨0,by decide,by simp,rfl,H0.out.1,H0.out.2⟩
 case round=>
  clear H0
  obtain ⟨j,hj,rfl,rfl,hB,hbe⟩:=hrel
  have HB:=hide hB
  have HBE:=hide hbe
  obtain ⟨i,hi⟩:∃ i:Nat,i+j=10:=⟨10-j,by omega⟩
  have ti:(10:Int)-(j:Int)=(i:Int):=by omega
  rw[ti]
  have hlen:=nonL_len n j (by omega)
  by_cases hlt:j<8
  ·have jl:(3:Int)≤(i:Int):=by omega
   obtain ⟨q,hq⟩:∃ q:Nat,q=n/256 ^ j:=⟨_,rfl⟩
   obtain ⟨q2,hq2⟩:∃ q:Nat,q=n/256 ^ (j+1):=⟨_,rfl⟩
   have tq:(q:Int)/2 ^ 8=(q2:Int):=by rw[hq,hq2];exact shr8 n j
   have HTQ:=hide (show (q:Int)/256=(q2:Int) from tq)
   have ib:(i:Int)<12:=by omega
   have ib2:i<12:=by omega
   have hqb:q≤1125899906842624:=by rw[hq];exact Nat.le_trans (Nat.div_le_self _ _) hn
   obtain ⟨X,hX⟩:∃ X:UInt8,X=UInt8.ofNat (q%256):=⟨_,rfl⟩
   have tX:(q:Int)%256=((X.toNat:Nat):Int):=by rw[hX];exact byte_mod q
   obtain ⟨v0,hv0⟩:∃ v,(u8L (nonL n j))[i]? = some v:=⟨_,List.getElem?_eq_getElem (by unfold u8L;rw[List.length_map,hlen];omega)⟩
   have c0:=hB.cell hv0
   have f0:=hB.frozen i
   have HNX:=hide (show (u8L (nonL n j)).set i (.int .u8 ((X.toNat:Nat):Int))=u8L (nonL n (j+1)) by rw[←u8L_set,hX,hq,show i=10-j by omega,nonL_set n j (by omega)])
   rw[←hq]
   have HQ2:=hide hq2
   have HI:=hide (And.intro hi hlt)
   clear hB hbe hv0 hq hq2 hX hlen ti hi hlt hj
   go_wp2
   go_roundw
   case rel=>
    obtain ⟨h1,h2⟩:=HI.out
    refine ⟨j+1,by omega,by rw[HTQ.out,HQ2.out],by congr 1;omega,?_,HBE.out.setCell (by simp) _⟩
    rw[←HNX.out]
    exact HB.out.setCell_same i _
   case measure=>obtain ⟨h1,h2⟩:=HI.out;simp[intOf] <;> omega
  ·obtain rfl:j=8:=by omega
   obtain rfl:i=2:=by omega
   have hB8:=hB
   cases last with
   | false=>
    rw[nonL_8 n (by omega)] at hB8
    have hR:Row wr w.heap.size 5 1 (.slice (some ⟨w.heap.size,0,none⟩) 12 12) 12 (u8L (Ref.nonce n false)):=by
     have h:=Row.newB hB8 (Nat.le_refl _) (by rw[Ref.nonce_len];decide)
     rw[Ref.nonce_len] at h
     exact h
    obtain ⟨ao,cap,h1,h2,h3,hcv⟩:=Row.strAny hR
    clear hB hbe hB8 hR h1 h2 h3 hlen
    go_wp2
    go_ret
    exact ⟨rfl,HBE.out⟩
   | true=>
    obtain ⟨v0,hv0⟩:∃ v,(u8L (nonL n 8))[11]? = some v:=⟨_,List.getElem?_eq_getElem (by unfold u8L;rw[List.length_map,hlen];decide)⟩
    have c0:=hB.cell hv0
    have f0:=hB.frozen 11
    have hB9:=hB.setCell_same 11 (.int .u8 1)
    rw[show (u8L (nonL n 8)).set 11 (.int .u8 1)=u8L (Ref.nonce n true) by rw[←nonL_last n (by omega),u8L_set];rfl] at hB9
    have hR:Row (wr.setCell ⟨w.heap.size,11,none⟩ (.int .u8 1)) w.heap.size 5 1 (.slice (some ⟨w.heap.size,0,none⟩) 12 12) 12 (u8L (Ref.nonce n true)):=by
     have h:=Row.newB hB9 (Nat.le_refl _) (by rw[Ref.nonce_len];decide)
     rw[Ref.nonce_len] at h
     exact h
    obtain ⟨ao,cap,h1,h2,h3,hcv⟩:=Row.strAny hR
    have HE:=hide (HBE.out.setCell (p:=⟨w.heap.size,11,none⟩) (Nat.le_refl _) (.int .u8 1))
    clear hB hbe hB9 hB8 hR h1 h2 h3 hlen hv0
    go_wp2
    go_ret
    exact ⟨rfl,HE.out⟩
theorem sealAt (key nn t:ByteArray) (w:World) (hk:key.size=32) (hn:nn.size=12) (ht:t.size≤1099511627):
  Calls Tryz.prog 53 #[.string key,.string nn,.string ⟨#[]⟩,.string t] w fun e w'=>e = .returned (.tuple #[.string ⟨(Box.sealed key.data.toList nn.data.toList [] t.data.toList).toArray⟩,.int .i64 0])∧Below w.heap.size w w':=by
 have h:=pseal_ok key nn ⟨#[]⟩ t w (by decide) ht
 unfold ansV Box.sealAns at h
 rw[if_neg (by rw[hk,hn];decide)] at h
 exact h
def fileCells (vm:Value) (text d b:ByteArray) (top:Int) (key:ByteArray) (vb:Value):List Value:=[vm,.string text,.string d,.string b,.int .i64 top,.string key,vb]
theorem want_nums (N:Nat) (h:N≤268435456):∃ W:Nat,((N:Int)+16-1).tdiv 16=(W:Int)∧((N:Int)+15)/16=(W:Int)∧(if W=0 then 1 else W)=Ref.full N+1:=by
 refine ⟨(N+15)/16,?_,?_,?_⟩
 ·rw[Int.tdiv_eq_ediv_of_nonneg (by omega)];omega
 ·omega
 ·unfold Ref.full;split <;> omega
structure FSt (w:World) (fb:Nat) (vm:Value) (text d b:ByteArray) (top:Int) (key:ByteArray) (vb:Value) (bl:List ByteArray) (wi:World):Prop where
 blk:Blk wi fb 27 (fileCells vm text d b top key vb)
 strs:Strs wi vb bl
 be:Below w.heap.size w wi
theorem FSt.after {w:World} {fb:Nat} {vm:Value} {text d b:ByteArray} {top:Int} {key:ByteArray} {vb:Value} {bl:List ByteArray} {wi wj:World} (h:FSt w fb vm text d b top key vb bl wi) (hb:Below wi.heap.size wi wj):FSt w fb vm text d b top key vb bl wj:=
 ⟨h.blk.below hb h.blk.lt,h.strs.after hb,h.be.trans (hb.mono h.be.size)⟩
set_option maxRecDepth 100000 in
set_option maxHeartbeats 1600000 in
theorem fsealed_any (fb:Nat) (vm vb:Value) (text d b key:ByteArray) (top:Int) (bl:List ByteArray) (w:World) (hB:Blk w fb 27 (fileCells vm text d b top key vb)) (hs:Strs w vb bl) (hk:key.size=32) (hx:text.size≤268435456) (hl:bl.length=Ref.full text.size+1)
  (hbl:∀ i,i<bl.length→bl.getD i ⟨#[]⟩=⟨(Ref.box key.data.toList i (decide (i+1=bl.length)) (Ref.chunkL text.data.toList i)).toArray⟩):
  Calls Tryz.prog 56 #[.pointer (some ⟨fb,0,none⟩)] w fun e w'=>e = .returned (.bool true)∧Below w.heap.size w w':=by
 have c1:=hB.cell (i:=1) rfl
 have c6:=hB.cell (i:=6) rfl
 have HB:=hide hB
 have HS:=hide hs
 have HBL:=hide hbl
 have HK:=hide hk
 obtain ⟨ao,cp,rfl⟩:=hs.len
 obtain ⟨N,hN⟩:∃ N:Nat,text.size=N:=⟨_,rfl⟩
 obtain ⟨W,t1,t2,t3⟩:=want_nums N (by omega)
 obtain ⟨n,hn⟩:∃ n:Nat,bl.length=n:=⟨_,rfl⟩
 have HNN:=hide hn
 rw[hn] at hl c6
 have HNX:=hide hN
 rw[hN] at hl
 have hnb:n≤268435457:=by rw[hl];unfold Ref.full;omega
 have hfl:fb<w.heap.size:=hB.lt
 have hWn:(if W=0 then 1 else W)=n:=by rw[t3,hl]
 have hn0:0<n:=by omega
 obtain ⟨n1,hn1⟩:∃ n1:Nat,n1+1=n:=⟨n-1,by omega⟩
 have tn:(n:Int)-1=(n1:Int):=by omega
 have HN1:=hide hn1
 clear hB hs hbl hk hn hl t3 hn1
 have H0:=hide (show FSt w fb vm text d b top key (.slice ao n cp) bl w from ⟨by rw[←HNN.out];exact HB.out,by rw[←HNN.out];exact HS.out,Below.refl _ _⟩)
 by_cases hW:W=0
 ·subst hW
  have hn':n=1:=by rw[if_pos rfl] at hWn;omega
  subst hn'
  clear hWn
  go_enter Tryz.func56,Tryz.ntmps56
  go_wp2
  clear c1 c6
  go_loopw [5] (fun v wr=>∃ i:Nat,i≤1∧v = .int .i64 (i:Nat)∧FSt w fb vm text d b top key (.slice ao 1 cp) bl wr) (fun v _=>1-(intOf v).toNat)
  case atStart=>exact ⟨0,Nat.zero_le _,rfl,H0.out⟩
  case round=>
   clear H0
   obtain ⟨i,hi,rfl,hF⟩:=hrel
   have HF:=hide hF
   clear hF
   by_cases hlt:i<1
   ·have jl:(i:Int)<(1:Int):=by omega
    obtain ⟨lb,hlb⟩:∃ lb,decide (i+1=1)=lb:=⟨_,rfl⟩
    have zi:((i:Int)==(n1:Int))=lb:=by
     have:=HN1.out
     rw[←hlb]
     by_cases h:i+1=1
     ·rw[decide_eq_true h,beq_iff_eq];omega
     ·rw[decide_eq_false h,beq_eq_false_iff_ne];omega
    have zi2:decide (i=n1)=lb:=by
     have:=HN1.out
     rw[←hlb]
     by_cases h:i+1=1
     ·rw[decide_eq_true h,decide_eq_true (by omega)]
     ·rw[decide_eq_false h,decide_eq_false (by omega)]
    have zi3:(i==n1)=lb:=by rw[←zi2];rfl
    have zi4:((i:Int)==0)=lb:=by
     have h1:=HN1.out
     rw[←hlb,decide_eq_true (by omega),beq_iff_eq]
     omega
    have hbx:=HBL.out i (by rw[HNN.out];exact hlt)
    rw[HNN.out,hlb] at hbx
    have HKN:=hide (fun w=>knonce_any i lb w (by omega))
    have HCH:=hide (fun w=>chunk_any text i w (by omega) (by omega))
    have hcl:(Ref.chunkL text.data.toList i).length≤16:=by unfold Ref.chunkL;rw[List.length_take];omega
    have HSE:=hide (fun w=>sealAt key ⟨(Ref.nonce i lb).toArray⟩ ⟨(Ref.chunkL text.data.toList i).toArray⟩ w HK.out (by rw[two_size,Ref.nonce_len]) (by rw[two_size];omega))
    rw[two_toList,two_toList] at HSE
    have hbq:Ref.box key.data.toList i lb (Ref.chunkL text.data.toList i)=Box.sealed key.data.toList (Ref.nonce i lb) [] (Ref.chunkL text.data.toList i):=by unfold Ref.box;rw[if_pos (by rw[ba_len,HK.out])]
    rw[hbq] at hbx
    have HBX:=hide hbx
    generalize (⟨(Box.sealed key.data.toList (Ref.nonce i lb) [] (Ref.chunkL text.data.toList i)).toArray⟩:ByteArray)=SB at *
    generalize (⟨(Ref.nonce i lb).toArray⟩:ByteArray)=nn at *
    generalize (⟨(Ref.chunkL text.data.toList i).toArray⟩:ByteArray)=cc at *
    have HLT:=hide hlt
    clear hbx hbq hcl hlt hlb
    go_wp2_with fail
    refine (HKN.out _).mono ?_
    rintro e w1 ⟨rfl,be1⟩
    have F1:=hide (HF.out.after be1)
    have c1:=F1.out.blk.cell (i:=1) rfl
    clear HKN be1 HF zi zi2 zi3 zi4
    go_wp2_with fail
    refine (HCH.out _).mono ?_
    rintro e w2 ⟨rfl,rfl⟩
    have c5:=F1.out.blk.cell (i:=5) rfl
    clear HCH c1
    go_wp2_with fail
    refine (HSE.out _).mono ?_
    rintro e w3 ⟨rfl,be3⟩
    have F3:=hide (F1.out.after be3)
    have c6:=F3.out.blk.cell (i:=6) rfl
    obtain ⟨g,o,c,hv1,hgl,e1⟩:=F3.out.strs.at i (by rw[HNN.out];exact HLT.out)
    injection hv1 with hv1 hv1n hv1c
    clear hv1n
    subst hv1
    subst hv1c
    rw[HBX.out] at e1
    clear HSE be3 F1 c5
    go_wp2
    go_roundw
    case rel=>exact ⟨i+1,HLT.out,by go_num,F3.out⟩
    case measure=>have:=HLT.out;simp[intOf];omega
   ·have jl:¬ (i:Int)<(1:Int):=by omega
    go_wp2
    go_ret
    exact ⟨rfl,HF.out.be⟩
 ·rw[if_neg hW] at hWn
  subst hWn
  have zW:((W:Int)==0)=false:=beq_eq_false_iff_ne.2 (by omega)
  go_enter Tryz.func56,Tryz.ntmps56
  go_wp2
  clear c1 c6
  go_loopw [5] (fun v wr=>∃ i:Nat,i≤W∧v = .int .i64 (i:Nat)∧FSt w fb vm text d b top key (.slice ao W cp) bl wr) (fun v _=>W-(intOf v).toNat)
  case atStart=>exact ⟨0,Nat.zero_le _,rfl,H0.out⟩
  case round=>
   clear H0
   obtain ⟨i,hi,rfl,hF⟩:=hrel
   have HF:=hide hF
   clear hF
   by_cases hlt:i<W
   ·have jl:(i:Int)<(W:Int):=by omega
    obtain ⟨lb,hlb⟩:∃ lb,decide (i+1=W)=lb:=⟨_,rfl⟩
    have zi:((i:Int)==(n1:Int))=lb:=by
     have:=HN1.out
     rw[←hlb]
     by_cases h:i+1=W
     ·rw[decide_eq_true h,beq_iff_eq];omega
     ·rw[decide_eq_false h,beq_eq_false_iff_ne];omega
    have zi2:decide (i=n1)=lb:=by
     have:=HN1.out
     rw[←hlb]
     by_cases h:i+1=W
     ·rw[decide_eq_true h,decide_eq_true (by omega)]
     ·rw[decide_eq_false h,decide_eq_false (by omega)]
    have zi3:(i==n1)=lb:=by rw[←zi2];rfl
    have hbx:=HBL.out i (by rw[HNN.out];exact hlt)
    rw[HNN.out,hlb] at hbx
    have HKN:=hide (fun w=>knonce_any i lb w (by omega))
    have HCH:=hide (fun w=>chunk_any text i w (by omega) (by omega))
    have hcl:(Ref.chunkL text.data.toList i).length≤16:=by unfold Ref.chunkL;rw[List.length_take];omega
    have HSE:=hide (fun w=>sealAt key ⟨(Ref.nonce i lb).toArray⟩ ⟨(Ref.chunkL text.data.toList i).toArray⟩ w HK.out (by rw[two_size,Ref.nonce_len]) (by rw[two_size];omega))
    rw[two_toList,two_toList] at HSE
    have hbq:Ref.box key.data.toList i lb (Ref.chunkL text.data.toList i)=Box.sealed key.data.toList (Ref.nonce i lb) [] (Ref.chunkL text.data.toList i):=by unfold Ref.box;rw[if_pos (by rw[ba_len,HK.out])]
    rw[hbq] at hbx
    have HBX:=hide hbx
    generalize (⟨(Box.sealed key.data.toList (Ref.nonce i lb) [] (Ref.chunkL text.data.toList i)).toArray⟩:ByteArray)=SB at *
    generalize (⟨(Ref.nonce i lb).toArray⟩:ByteArray)=nn at *
    generalize (⟨(Ref.chunkL text.data.toList i).toArray⟩:ByteArray)=cc at *
    have HLT:=hide hlt
    clear hbx hbq hcl hlt hlb
    go_wp2_with fail
    refine (HKN.out _).mono ?_
    rintro e w1 ⟨rfl,be1⟩
    have F1:=hide (HF.out.after be1)
    have c1:=F1.out.blk.cell (i:=1) rfl
    clear HKN be1 HF zi zi2 zi3
    go_wp2_with fail
    refine (HCH.out _).mono ?_
    rintro e w2 ⟨rfl,rfl⟩
    have c5:=F1.out.blk.cell (i:=5) rfl
    clear HCH c1
    go_wp2_with fail
    refine (HSE.out _).mono ?_
    rintro e w3 ⟨rfl,be3⟩
    have F3:=hide (F1.out.after be3)
    have c6:=F3.out.blk.cell (i:=6) rfl
    obtain ⟨g,o,c,hv1,hgl,e1⟩:=F3.out.strs.at i (by rw[HNN.out];exact HLT.out)
    injection hv1 with hv1 hv1n hv1c
    clear hv1n
    subst hv1
    subst hv1c
    rw[HBX.out] at e1
    clear HSE be3 F1 c5
    go_wp2
    go_roundw
    case rel=>exact ⟨i+1,HLT.out,by go_num,F3.out⟩
    case measure=>have:=HLT.out;simp[intOf];omega
   ·have jl:¬ (i:Int)<(W:Int):=by omega
    go_wp2
    go_ret
    exact ⟨rfl,HF.out.be⟩
structure FileF (l:List ByteArray) (d text b H PD KY FK:ByteArray) (ss bs:List ByteArray) (mac:ByteArray) (n:Nat):Prop where
 hn:l.length=n
 ok:Hd.Ok ss bs mac
 nss:ss.length=n
 hs:H.size=59+75*n
 par:Hd.parAns H=(⟨ss,bs,mac⟩,0)
 bl:b.data.toList=H.data.toList++(PD.data.toList++Ref.encF KY.data.toList text.data.toList)
 pd:PD.size=16
 fk:FK.size=16
 ky:KY.size=32
 e0:b.extract 0 H.size=H
 e1:b.extract H.size (H.size+16)=PD
 e2:(b.extract (H.size+16) b.size).data.toList=Ref.encF KY.data.toList text.data.toList
 bz:b.size=H.size+16+(Ref.encF KY.data.toList text.data.toList).length
 top:Hd.wholeAt b.data.toList (H.size-1)∧Hd.noneTo b.data.toList (H.size-1)
 key:KY.data.toList=Ref.keyL FK.data.toList PD.data.toList Ref.inBody
 fkd:FK=d.extract (n*16) ((n+1)*16)
 pdd:PD=d.extract ((n+1)*16) d.size
 sal:∀ i,i<n→ss.getD i ⟨#[]⟩=d.extract (i*16) ((i+1)*16)
 bod:∀ i,i<n→bs.getD i ⟨#[]⟩=⟨(Box.sealed (Ref.keyL (l.getD i ⟨#[]⟩).data.toList (ss.getD i ⟨#[]⟩).data.toList Ref.inWrap) (nought 12) [] FK.data.toList).toArray⟩
 mc:macL (Ref.keyL FK.data.toList [] Ref.inHead) (b.extract 0 (H.size-45)).data.toList=mac.data.toList
 msz:mac.size=32
theorem top_of {T T' r L:List UInt8} {k:Nat} (hT:T=T') (hL:L=T++r) (hk:T.length=k) (h:∀ r,Hd.wholeAt (T'++r) (T'.length-1)∧Hd.noneTo (T'++r) (T'.length-1)):Hd.wholeAt L (k-1)∧Hd.noneTo L (k-1):=by
 subst hT
 subst hL
 subst hk
 exact h r
theorem file_facts (l:List ByteArray) (d text:ByteArray) (h1:1≤l.length) (h3:l.length≤3) (hd:d.size=16*(l.length+2)):
  FileF l d text (fileB l d text) (Ref.head l d 0) (Ref.pdraw l d 0) (Ref.pkey l d 0) (Ref.fkey l d 0) (cuts d 0 l.length) (Ref.bodsL l (cuts d 0 l.length) (Ref.fkey l d 0).data.toList l.length) (Ref.macB l (cuts d 0 l.length) (Ref.fkey l d 0).data.toList) l.length:=by
 have hfk:(Ref.fkey l d 0).size=16:=by unfold Ref.fkey;rw[ByteArray.size_extract];omega
 have hpd:(Ref.pdraw l d 0).size=16:=by unfold Ref.pdraw;rw[ByteArray.size_extract];omega
 have hO:=Ref.okHead (l:=l) (ss:=cuts d 0 l.length) (key:=(Ref.fkey l d 0).data.toList) (by omega) (by omega) (cuts_len _ _ _) (Ref.cuts_size (by omega)) (by rw[ba_len,hfk]) (Ref.macB l (cuts d 0 l.length) (Ref.fkey l d 0).data.toList) (Ref.macB_size _ _ _)
 have hHl:(Ref.head l d 0).data.toList=Hd.text (cuts d 0 l.length) (Ref.bodsL l (cuts d 0 l.length) (Ref.fkey l d 0).data.toList l.length) (Ref.macB l (cuts d 0 l.length) (Ref.fkey l d 0).data.toList):=rfl
 have hHo:Ref.head l d 0=Hd.ofL (Hd.text (cuts d 0 l.length) (Ref.bodsL l (cuts d 0 l.length) (Ref.fkey l d 0).data.toList l.length) (Ref.macB l (cuts d 0 l.length) (Ref.fkey l d 0).data.toList)):=rfl
 have hHs:(Ref.head l d 0).size=59+75*l.length:=by rw[hHo,hO.size_eq,cuts_len]
 have hbl:(fileB l d text).data.toList=(Ref.head l d 0).data.toList++((Ref.pdraw l d 0).data.toList++Ref.encF (Ref.pkey l d 0).data.toList text.data.toList):=by
  show (Ref.file l d 0 text.data.toList)=_
  unfold Ref.file
  rw[List.append_assoc]
 have hHlen:(Ref.head l d 0).data.toList.length=(Ref.head l d 0).size:=ba_len _
 have hPlen:(Ref.pdraw l d 0).data.toList.length=16:=by rw[ba_len,hpd]
 have hbz:(fileB l d text).size=(Ref.head l d 0).size+16+(Ref.encF (Ref.pkey l d 0).data.toList text.data.toList).length:=by
  rw[←ba_len,hbl,List.length_append,List.length_append,hHlen,hPlen,Nat.add_assoc]
 have e0:(fileB l d text).extract 0 (Ref.head l d 0).size=Ref.head l d 0:=ba_ext (by rw[ext_take,hbl,List.take_left' hHlen])
 refine ⟨rfl,hO,cuts_len _ _ _,hHs,by rw[hHo,Hd.parAns_text hO],hbl,hpd,hfk,Ref.pkey_size _ _ _,e0,?_,?_,hbz,?_,rfl,?_,?_,?_,?_,?_,Ref.macB_size _ _ _⟩
 ·apply ba_ext
  rw[sub_list,hbl,Nat.add_sub_cancel_left,List.drop_left' hHlen,List.take_left' hPlen]
 ·rw[sub_list,hbl,←List.append_assoc,List.drop_left' (by rw[List.length_append,hHlen,hPlen]),List.take_of_length_le (by rw[hbz];omega)]
 ·exact top_of hHl hbl hHlen (fun r=>hO.top r)
 ·unfold Ref.fkey
  rw[show 0+16*l.length=l.length*16 by omega,show l.length*16+16=(l.length+1)*16 by omega]
 ·unfold Ref.pdraw
  rw[show 0+16*(l.length+1)=(l.length+1)*16 by omega,show (l.length+1)*16+16=d.size by omega]
 ·intro i hi
  rw[List.getD_eq_getElem?_getD,List.getElem?_eq_getElem (by rw[cuts_len];exact hi)]
  have e:(cuts d 0 l.length)[i]'(by rw[cuts_len];exact hi)=d.extract (0+16*i) (0+16*i+16):=(List.getElem_map _).trans (by rw[List.getElem_range])
  show (cuts d 0 l.length)[i]'(by rw[cuts_len];exact hi)=_
  rw[e,show 0+16*i=i*16 by omega,show i*16+16=(i+1)*16 by omega]
 ·intro i hi
  rw[Ref.bodsL_at _ _ _ _ _ hi]
  rfl
 ·have h:=Ref.text_top hO
  rw[←hHl,hHlen] at h
  rw[ext_take,hbl,List.take_append_of_le_length (by rw[hHlen];omega),h]
  rfl
theorem FileF.topO {l:List ByteArray} {d text b H PD KY FK:ByteArray} {ss bs:List ByteArray} {mac:ByteArray} {n:Nat} (F:FileF l d text b H PD KY FK ss bs mac n) (h3:n≤3) {r:Int} (h:TopO b.data.toList r):r=(H.size:Int):=by
 obtain ⟨t1,t2⟩:=F.top
 have hs:=F.hs
 have hz:=F.bz
 rcases h with ⟨k,_,_,hw,hno,rfl⟩ | ⟨hno,_⟩
 ·rcases Nat.lt_trichotomy k (H.size-1) with h | h | h
  ·exact absurd hw (t2 k h)
  ·omega
  ·exact absurd t1 (hno _ h)
 ·exact absurd t1 (hno _ (by rw[ba_len];omega))
theorem Src.Top.calm {T:List UInt8} {x y:Src} {k j c q:Nat} (h:Src.Top T x k y j c) (hc:Src.Calm x.plan) (hx:x.at_≤x.s.size) (hw:Hd.wholeAt T q) (hn:Hd.noneTo T q) (hk:k≤q) (hq:q<284) (hat:x.at_+(q-k)<x.s.size):j=q+1∧c=0:=by
 induction h using Src.Top.ind with
 | full x k h=>omega
 | fail x y k _ ha=>exact absurd rfl (ha.calm hc)
 | over x y k _ ha=>
  have:=(ha.calm_all hc hx).1 (by omega)
  omega
 | hit x y k _ ha hh=>
  rcases Nat.eq_or_lt_of_le hk with e | e
  ·exact ⟨by omega,rfl⟩
  ·exact absurd hh (hn k e)
 | more x y z k j c _ ha hh ht ih=>
  have hl:=ha.left hx
  have hy:=hl.all rfl
  have hne:k≠q:=fun e=>hh (e ▸ hw)
  exact ih (by rw[hl.plan];exact hc) hl.size (by omega) (by rw[hl.s];omega)
section
variable {l:List ByteArray} {d text b H PD KY FK:ByteArray} {ss bs:List ByteArray} {mac:ByteArray} {n:Nat}
theorem FileF.opn (F:FileF l d text b H PD KY FK ss bs mac n) (h1:1≤n) (h3:n≤3):Ref.opnA (Hd.at_ l 0) H=(FK.data.toList,0):=by
 have hu:Ref.unwA (Hd.at_ l 0) ss bs=(FK.data.toList,0):=by
  unfold Ref.unwA
  rw[F.nss]
  obtain ⟨f,rfl⟩:∃ f,n=f+1:=⟨n-1,by omega⟩
  have hb:Ref.body (Hd.at_ l 0) ss bs 0=(FK.data.toList,0):=by
   unfold Ref.body Hd.at_
   rw[F.bod 0 (by omega)]
   exact Box.opened_sealed _ _ _ _
  rw[Ref.unw,hb,if_pos rfl]
 rw[opnA_ok F.par,hu]
 unfold hdAns
 have hmc:=F.mc
 rw[ext_take] at hmc
 have he:b.data.toList.take (H.size-45)=H.data.toList.take (H.size-45):=by
  rw[F.bl,List.take_append_of_le_length (by rw[ba_len];omega)]
 rw[he] at hmc
 rw[if_neg (by simp),if_neg (fun h=>h hmc)]
theorem FileF.new (F:FileF l d text b H PD KY FK ss bs mac n) (h1:1≤n) (h3:n≤3) (hm:(Hd.at_ l 0).length=32) {x z:Src} {k:Int} {key:List UInt8} (hxs:x.s=b) (hxa:x.at_=0) (hc:Src.Calm x.plan) (h:Ref.New (Hd.at_ l 0) x z k key):k=0∧key=KY.data.toList∧z.at_=H.size+16∧z.s=b∧z.plan=x.plan:=by
 have hs:=F.hs
 have hz:=F.bz
 have hr:x.rest=b.data.toList:=by unfold Src.rest;rw[hxs,hxa];rfl
 have hx0:x.at_≤x.s.size:=by omega
 have top:∀ {y:Src} {j c:Nat},Src.Top x.rest x 0 y j c→j=H.size∧c=0∧y.at_=H.size∧y.s=b∧y.plan=x.plan∧y.at_≤y.s.size:=by
  intro y j c ht
  have L:=ht.left hx0
  obtain ⟨e1,e2⟩:=ht.calm hc hx0 (by rw[hr];exact F.top.1) (by rw[hr];exact F.top.2) (Nat.zero_le _) (by omega) (by rw[hxs,hxa];omega)
  have:=L.at_
  exact ⟨by omega,e2,by omega,by rw[L.s,hxs],L.plan,L.size⟩
 have hop:∀ j,j=H.size→Ref.opnA (Hd.at_ l 0) (topS x j)=(FK.data.toList,0):=by
  rintro j rfl
  have e:topS x H.size=H:=by unfold topS;rw[hxs,hxa,Nat.zero_add];exact F.e0
  rw[e]
  exact F.opn h1 h3
 cases h using Ref.New.elim with
 | len h=>exact absurd hm h
 | src y j _ ht=>exact absurd (top ht).2.1 (by decide)
 | top y j c _ ht _ ho=>
  rw[hop j (top ht).1] at ho
  exact absurd rfl ho
 | cut y j c z d _ ht _ _ ha hd=>
  obtain ⟨e1,e2,e3,e4,e5,e6⟩:=top ht
  exact absurd ((ha.calm_all (by rw[e5];exact hc) e6).1 (by rw[e3,e4];omega)).1 hd
 | ok y j c z _ ht _ _ ha=>
  obtain ⟨e1,e2,e3,e4,e5,e6⟩:=top ht
  have L:=ha.left e6
  have hall:=L.all rfl
  refine ⟨rfl,?_,by omega,by rw[L.s,e4],L.plan.trans e5⟩
  rw[hop j e1]
  have e:topS y 16=PD:=by unfold topS;rw[e4,e3];exact F.e1
  rw[e,F.key]
end
structure RdF (b KY text:ByteArray) (r:Ref.Rd) (j:Nat):Prop where
 s:r.x.s=b
 calm:Src.Calm r.x.plan
 at_:r.x.at_≤r.x.s.size
 st:(r.e=0∧r.key=KY.data.toList∧r.ahead.length≤1∧r.n≤Ref.full text.size∧r.rem=(Ref.encF KY.data.toList text.data.toList).drop (32*r.n)∧j≤16*r.n∧r.text=(text.data.toList.take (16*r.n)).drop j)∨(r.e=13∧r.x.rest=[]∧r.text=text.data.toList.drop j)
theorem RdF.pre {b KY text:ByteArray} {r:Ref.Rd} {j:Nat} (h:RdF b KY text r j):∃ q,r.text=(text.data.toList.drop j).take q:=by
 rcases h.st with ⟨_,_,_,_,_,_,ht⟩ | ⟨_,_,ht⟩
 ·exact ⟨16*r.n-j,by rw[ht,List.drop_take]⟩
 ·exact ⟨(text.data.toList.drop j).length,by rw[ht,List.take_length]⟩
theorem RdF.tell {b KY text:ByteArray} {r:Ref.Rd} {j:Nat} (h:RdF b KY text r j) (m:Nat):RdF b KY text (r.tell m) (j+(r.text.take m).length):=by
 have hd:r.text.drop m=r.text.drop (r.text.take m).length:=by
  rw[List.length_take]
  rcases Nat.le_total m r.text.length with h | h
  ·rw[Nat.min_eq_left h]
  ·rw[Nat.min_eq_right h,List.drop_length,List.drop_eq_nil_of_le h]
 have hlen:(r.text.take m).length≤r.text.length:=by rw[List.length_take];omega
 obtain ⟨K,hK⟩:∃ K,(r.text.take m).length=K:=⟨_,rfl⟩
 rw[hK] at hd hlen
 rw[hK]
 refine ⟨h.s,h.calm,h.at_,?_⟩
 rcases h.st with ⟨a1,a2,a3,a4,a5,a6,ht⟩ | ⟨a1,a0,ht⟩
 ·refine .inl ⟨a1,a2,a3,a4,a5,?_,?_⟩
  ·show j+K≤16*r.n
   rw[ht,List.length_drop,List.length_take] at hlen
   omega
  ·show r.text.drop m=(text.data.toList.take (16*r.n)).drop (j+K)
   rw[hd,ht,List.drop_drop]
 ·refine .inr ⟨a1,a0,?_⟩
  show r.text.drop m=_
  rw[hd,ht,List.drop_drop]
section
variable {l:List ByteArray} {d text b H PD KY FK:ByteArray} {ss bs:List ByteArray} {mac:ByteArray} {n:Nat}
theorem FileF.fill (F:FileF l d text b H PD KY FK ss bs mac n) {r r1:Ref.Rd} {j:Nat} (h:RdF b KY text r j) (hj:j≤text.size) (hf:Ref.Rd.Fill r r1):RdF b KY text r1 j∧(j<text.size→r1.text≠[])∧(j=text.size→r1.text=[]∧r1.e=13):=by
 have hk:KY.data.toList.length=32:=by rw[ba_len,F.ky]
 have hl:=Ref.encF_len hk text.data.toList
 have hfn:=Ref.full_nums text.size
 have htl:text.data.toList.length=text.size:=ba_len _
 rw[htl] at hl
 rcases h.st with ⟨a1,a2,a3,a4,a5,a6,ht⟩ | ⟨a1,a0,ht⟩
 ·have htlen:r.text.length=16*r.n-j:=by rw[ht,List.length_drop,List.length_take];omega
  by_cases h0:r.text=[]
  ·have hj16:j=16*r.n:=by rw[h0] at htlen;simp only[List.length_nil] at htlen;omega
   have hx:=Ref.Rd.next hf h0 a1 a3 h.at_ h.calm
   have hrl:r.rem.length=(Ref.encF KY.data.toList text.data.toList).length-32*r.n:=by rw[a5,List.length_drop]
   rcases Nat.lt_or_ge r.n (Ref.full text.size) with hlt | hge
   ·have hff:16*Ref.full text.size<text.size:=by unfold Ref.full at hlt ⊢;omega
    have hbox:Ref.opnC r.key r.n false (r.rem.take 32)=(Ref.chunkL text.data.toList r.n,0):=by
     have e:r.rem.take 32=Ref.boxI (Ref.encF KY.data.toList text.data.toList) r.n:=by rw[a5];rfl
     rw[e,a2,Ref.encF_at hk _ _ (by rw[htl];exact hlt)]
     unfold Ref.box
     rw[if_pos hk]
     exact Ref.opnC_box _ _ _ (fun h=>by cases h)
    rcases hx.more (by omega) with ⟨e,_⟩ | ⟨_,e2,e3,e4,e5,e6,e7⟩
    ·rw[hbox] at e;exact absurd rfl e
    ·rw[hbox] at e2
     have hcl:r1.text.length=16:=by
      rw[e2]
      show (Ref.chunkL text.data.toList r.n).length=16
      unfold Ref.chunkL
      rw[List.length_take,List.length_drop,htl]
      omega
     refine ⟨⟨by rw[hx.s,h.s],by rw[hx.plan];exact h.calm,hx.at_,.inl ⟨e3,by rw[e4,a2],(by omega),(by omega),?_,(by omega),?_⟩⟩,(fun _ e=>by rw[e] at hcl;cases hcl),(fun e=>by omega)⟩
     ·rw[e6,a5,List.drop_drop,e5]
      congr 1
     ·rw[e2,e5,hj16]
      show Ref.chunkL text.data.toList r.n=_
      unfold Ref.chunkL
      rw[List.drop_take,show 16*(r.n+1)-16*r.n=16 by omega]
   ·have hne:r.n=Ref.full text.size:=by omega
    have hrem:r.rem=Box.sealed KY.data.toList (Ref.nonce (Ref.full text.size) true) [] (Ref.chunkL text.data.toList (Ref.full text.size)):=by
     have h:=Ref.encF_last hk text.data.toList
     rw[htl] at h
     rw[a5,hne,h]
     unfold Ref.box
     rw[if_pos hk]
    have hbox:Ref.opnC r.key r.n true r.rem=(Ref.chunkL text.data.toList (Ref.full text.size),0):=by
     rw[hrem,a2,hne]
     refine Ref.opnC_box _ _ _ (fun _ h2 h3=>?_)
     have:=congrArg List.length h3
     unfold Ref.chunkL at this
     rw[List.length_take,List.length_drop,htl,List.length_nil] at this
     unfold Ref.full at h2 this
     omega
    have hne0:r.rem≠[]:=fun e=>by rw[e] at hrl;simp only[List.length_nil] at hrl;omega
    obtain ⟨ern,e⟩:=hx.last hne0 (by omega)
    have hck:Ref.chunkL text.data.toList (Ref.full text.size)=text.data.toList.drop j:=by
     rw[hj16,hne]
     unfold Ref.chunkL
     exact List.take_of_length_le (by rw[List.length_drop,htl];omega)
    rcases e with ⟨e,_⟩ | ⟨_,e2,e3⟩
    ·rw[hbox] at e;exact absurd rfl e
    ·rw[hbox] at e2
     have e2':r1.text=text.data.toList.drop j:=e2.trans hck
     refine ⟨⟨by rw[hx.s,h.s],by rw[hx.plan];exact h.calm,hx.at_,.inr ⟨e3,ern,e2'⟩⟩,fun hlt e=>?_,fun e=>⟨by rw[e2'];exact List.drop_eq_nil_of_le (by omega),e3⟩⟩
     rw[e2'] at e
     have:=congrArg List.length e
     rw[List.length_drop,htl,List.length_nil] at this
     omega
  ·cases hf using Ref.Rd.Fill.elim with
   | stay _=>exact ⟨h,fun _=>h0,fun e=>by
     have:r.text.length≠0:=fun e=>h0 (List.eq_nil_of_length_eq_zero e)
     omega⟩
   | opn _ _ h2=>exact absurd h2 h0
 ·cases hf using Ref.Rd.Fill.elim with
  | stay _=>
   refine ⟨h,fun hlt e=>?_,fun e=>⟨by rw[ht];exact List.drop_eq_nil_of_le (by omega),a1⟩⟩
   rw[ht] at e
   have:=congrArg List.length e
   rw[List.length_drop,htl,List.length_nil] at this
   omega
  | opn _ _ _ h2=>rw[a1] at h2;exact absurd h2 (by decide)
theorem FileF.run (F:FileF l d text b H PD KY FK ss bs mac n) {r:Ref.Rd} {t:List UInt8} {e:Int} (hr:Ref.Rd.Run r t e):∀ j,j≤text.size→RdF b KY text r j→t=text.data.toList.drop j∧e=13:=by
 have htl:text.data.toList.length=text.size:=ba_len _
 induction hr using Ref.Rd.Run.ind with
 | stop r r1 hf h0=>
  intro j hj h
  obtain ⟨_,h2,h3⟩:=F.fill h hj hf
  have hjs:j=text.size:=by
   rcases Nat.eq_or_lt_of_le hj with e | e
   ·exact e
   ·exact absurd h0 (h2 e)
  exact ⟨(List.drop_eq_nil_of_le (by omega)).symm,(h3 hjs).2⟩
 | more r r1 t e hf h0 _ ih=>
  intro j hj h
  obtain ⟨h1,h2,h3⟩:=F.fill h hj hf
  obtain ⟨q,hq⟩:=h1.pre
  have hlen:(r1.text.take 16).length≤text.size-j:=by
   rw[hq,List.length_take,List.length_take,List.length_drop,htl]
   omega
  obtain ⟨e1,e2⟩:=ih (j+(r1.text.take 16).length) (by omega) (h1.tell 16)
  refine ⟨?_,e2⟩
  rw[e1]
  have e3:r1.text.take 16=(text.data.toList.drop j).take (r1.text.take 16).length:=by
   conv=>lhs;rw[hq,List.take_take]
   rw[hq,List.take_take,List.length_take]
   rw[List.take_eq_take_min]
  conv=>lhs;lhs;rw[e3]
  rw[←List.drop_drop,List.take_append_drop]
theorem FileF.start (F:FileF l d text b H PD KY FK ss bs mac n) {y:Src} (hs:y.s=b) (hc:Src.Calm y.plan) (ha:y.at_=H.size+16):RdF b KY text ⟨y,KY.data.toList,0,[],[],0⟩ 0:=by
 have hz:=F.bz
 refine ⟨hs,hc,by show y.at_≤y.s.size;rw[hs];omega,.inl ⟨rfl,rfl,Nat.zero_le _,Nat.zero_le _,?_,Nat.zero_le _,rfl⟩⟩
 show []++y.rest=_
 unfold Src.rest
 rw[List.nil_append,hs,ha,F.bl,←List.append_assoc,List.drop_left' (by rw[List.length_append,ba_len,ba_len,F.pd])]
 rfl
end
section
variable {l:List ByteArray} {d text b H PD KY FK:ByteArray} {ss bs:List ByteArray} {mac:ByteArray} {n:Nat}
def Slip (l ss bs:List ByteArray) (i:Nat):Prop:=∃ j,j<i∧(Ref.body (Hd.at_ l i) ss bs j).2=0∧l.getD j ⟨#[]⟩≠l.getD i ⟨#[]⟩
theorem FileF.body_own (F:FileF l d text b H PD KY FK ss bs mac n) (i k:Nat) (hk:k<n) (he:l.getD k ⟨#[]⟩=l.getD i ⟨#[]⟩):Ref.body (Hd.at_ l i) ss bs k=(FK.data.toList,0):=by
 unfold Ref.body Hd.at_
 rw[F.bod k hk,←he]
 exact Box.opened_sealed _ _ _ _
theorem FileF.unw_or (F:FileF l d text b H PD KY FK ss bs mac n) (i:Nat) (hi:i<n):∀ f k,k≤i→i<k+f→Ref.unw (Hd.at_ l i) ss bs f k=(FK.data.toList,0)∨Slip l ss bs i
 | 0,k,h1,h2=>by omega
 | f+1,k,h1,h2=>by
  rw[Ref.unw]
  by_cases hb:(Ref.body (Hd.at_ l i) ss bs k).2=0
  ·rw[if_pos hb]
   by_cases he:l.getD k ⟨#[]⟩=l.getD i ⟨#[]⟩
   ·rw[F.body_own i k (by omega) he]
    exact .inl rfl
   ·rcases Nat.eq_or_lt_of_le h1 with e | e
    ·exact absurd (by rw[e]) he
    ·exact .inr ⟨k,e,hb,he⟩
  ·rw[if_neg hb]
   rcases Nat.eq_or_lt_of_le h1 with e | e
   ·rw[F.body_own i k (by omega) (by rw[e])] at hb
    exact absurd rfl hb
   ·exact F.unw_or i hi f (k+1) e (by omega)
theorem FileF.opnM (F:FileF l d text b H PD KY FK ss bs mac n) (i:Nat) (hi:i<n):Ref.opnA (Hd.at_ l i) H=(FK.data.toList,0)∨Slip l ss bs i:=by
 have hs:=F.hs
 have h:=F.unw_or i hi n 0 (Nat.zero_le _) (by omega)
 rcases h with hu | h
 ·left
  have hu:Ref.unwA (Hd.at_ l i) ss bs=(FK.data.toList,0):=by unfold Ref.unwA;rw[F.nss];exact hu
  rw[opnA_ok F.par,hu]
  unfold hdAns
  have hmc:=F.mc
  rw[ext_take] at hmc
  have he:b.data.toList.take (H.size-45)=H.data.toList.take (H.size-45):=by
   rw[F.bl,List.take_append_of_le_length (by rw[ba_len];omega)]
  rw[he] at hmc
  rw[if_neg (by simp),if_neg (fun h=>h hmc)]
 ·exact .inr h
theorem FileF.newM (F:FileF l d text b H PD KY FK ss bs mac n) (h3:n≤3) {m:List UInt8} (hm:m.length=32) (ho:Ref.opnA m H=(FK.data.toList,0)) {x z:Src} {k:Int} {key:List UInt8} (hxs:x.s=b) (hxa:x.at_=0) (hc:Src.Calm x.plan) (h:Ref.New m x z k key):k=0∧key=KY.data.toList∧z.at_=H.size+16∧z.s=b∧z.plan=x.plan:=by
 have hs:=F.hs
 have hz:=F.bz
 have hr:x.rest=b.data.toList:=by unfold Src.rest;rw[hxs,hxa];rfl
 have hx0:x.at_≤x.s.size:=by omega
 have top:∀ {y:Src} {j c:Nat},Src.Top x.rest x 0 y j c→j=H.size∧c=0∧y.at_=H.size∧y.s=b∧y.plan=x.plan∧y.at_≤y.s.size:=by
  intro y j c ht
  have L:=ht.left hx0
  obtain ⟨e1,e2⟩:=ht.calm hc hx0 (by rw[hr];exact F.top.1) (by rw[hr];exact F.top.2) (Nat.zero_le _) (by omega) (by rw[hxs,hxa];omega)
  have:=L.at_
  exact ⟨by omega,e2,by omega,by rw[L.s,hxs],L.plan,L.size⟩
 have hop:∀ j,j=H.size→Ref.opnA m (topS x j)=(FK.data.toList,0):=by
  rintro j rfl
  have e:topS x H.size=H:=by unfold topS;rw[hxs,hxa,Nat.zero_add];exact F.e0
  rw[e]
  exact ho
 cases h using Ref.New.elim with
 | len h=>exact absurd hm h
 | src y j _ ht=>exact absurd (top ht).2.1 (by decide)
 | top y j c _ ht _ ho=>
  rw[hop j (top ht).1] at ho
  exact absurd rfl ho
 | cut y j c z d _ ht _ _ ha hd=>
  obtain ⟨e1,e2,e3,e4,e5,e6⟩:=top ht
  exact absurd ((ha.calm_all (by rw[e5];exact hc) e6).1 (by rw[e3,e4];omega)).1 hd
 | ok y j c z _ ht _ _ ha=>
  obtain ⟨e1,e2,e3,e4,e5,e6⟩:=top ht
  have L:=ha.left e6
  have hall:=L.all rfl
  refine ⟨rfl,?_,by omega,by rw[L.s,e4],L.plan.trans e5⟩
  rw[hop j e1]
  have e:topS y 16=PD:=by unfold topS;rw[e4,e3];exact F.e1
  rw[e,F.key]
theorem FileF.dec (F:FileF l d text b H PD KY FK ss bs mac n) (h3:n≤3) (i:Nat) (hi:i<n) (hm:(Hd.at_ l i).length=32) {a:List UInt8 × Int} (h:DecP (Hd.at_ l i) b a):a=(text.data.toList,0)∨Slip l ss bs i:=by
 rcases F.opnM i hi with ho | hs
 ·left
  have new:∀ {y:Src} {k:Int} {key:List UInt8},Ref.New (Hd.at_ l i) (src0 b) y k key→k=0∧key=KY.data.toList∧y.at_=H.size+16∧y.s=b∧y.plan=(src0 b).plan:=fun hn=>F.newM h3 hm ho (x:=src0 b) rfl rfl (src0_calm b) hn
  cases h using DecP.elim with
  | bad y k key hn hk=>exact absurd (new hn).1 hk
  | run y key t e hn hr=>
   obtain ⟨_,e2,e3,e4,e5⟩:=new hn
   subst e2
   obtain ⟨r1,r2⟩:=F.run hr 0 (Nat.zero_le _) (F.start e4 (by rw[e5];exact src0_calm b) e3)
   rw[r1,r2,if_pos rfl]
   rfl
 ·exact .inr hs
end
structure KN (w:World) (fc:List Value) (hb:Nat) (vs vc:Value) (mac:ByteArray) (v:Value) (l ss bs:List ByteArray) (wi:World):Prop where
 file:Blk wi w.heap.size 27 fc
 head:Blk wi hb 70 [vs,vc,.string mac]
 tb:Tabs wi
 s0:Strs wi v l
 s1:Strs wi vs ss
 s2:Strs wi vc bs
 be:Below w.heap.size w wi
theorem KN.after {w:World} {fc:List Value} {hb:Nat} {vs vc:Value} {mac:ByteArray} {v:Value} {l ss bs:List ByteArray} {wi wj:World} (h:KN w fc hb vs vc mac v l ss bs wi) (hb':Below wi.heap.size wi wj):KN w fc hb vs vc mac v l ss bs wj:=
 ⟨h.file.below hb' h.file.lt,h.head.below hb' h.head.lt,h.tb.after hb',h.s0.after hb',h.s1.after hb',h.s2.after hb',h.be.trans (hb'.mono h.be.size)⟩
structure FileR (fb:Nat) (v vb:Value) (l:List ByteArray) (d text b H KY:ByteArray) (w:World):Prop where
 blk:Blk w fb 27 (fileCells v text d b (H.size:Int) KY vb)
 ms:Strs w v l
 bx:Strs w vb (Ref.boxesL (Ref.encF KY.data.toList text.data.toList) (Ref.full text.size+1))
def KnownP (v:Value) (l:List ByteArray) (d text b H KY:ByteArray) (w:World) (e:Ending) (w':World):Prop:=∃ vb,e = .returned (.tuple #[.pointer (some ⟨w.heap.size,0,none⟩),.bool true])∧FileR w.heap.size v vb l d text b H KY w'∧Below w.heap.size w w'
theorem known_nums (n i:Nat) (hn:n≤4) (hi:i<n):∃ a b:Nat,(i:Int)*16=(a:Int)∧((i:Int)+1)*16=(b:Int)∧a=i*16∧b=(i+1)*16∧(a:Int)≤(b:Int)∧b≤64:=⟨i*16,(i+1)*16,by omega,by omega,rfl,rfl,by omega,by omega⟩
theorem boxes_right {KY text:ByteArray} (hk:KY.size=32) {M:Nat} (hM:Ref.full text.size+1=M):∀ j,j<(Ref.boxesL (Ref.encF KY.data.toList text.data.toList) M).length→(Ref.boxesL (Ref.encF KY.data.toList text.data.toList) M).getD j ⟨#[]⟩=⟨(Ref.box KY.data.toList j (decide (j+1=(Ref.boxesL (Ref.encF KY.data.toList text.data.toList) M).length)) (Ref.chunkL text.data.toList j)).toArray⟩:=by
 intro j hj
 rw[Ref.boxesL_len] at hj ⊢
 have hd:decide (j+1=M)=decide (j=Ref.full text.data.toList.length):=by
  rw[ba_len]
  by_cases h:j=Ref.full text.size
  ·rw[decide_eq_true h,decide_eq_true (by omega)]
  ·rw[decide_eq_false h,decide_eq_false (by omega)]
 rw[Ref.boxesL_at _ _ _ hj,Ref.encF_box (by rw[ba_len,hk]) _ _ (by rw[ba_len];omega),hd]
set_option maxRecDepth 100000 in
set_option maxHeartbeats 3200000 in
theorem known_any (v:Value) (l:List ByteArray) (d text b H PD KY FK:ByteArray) (ss bs:List ByteArray) (mac:ByteArray) (n:Nat) (w:World) (ht:Tabs w) (hv:Strs w v l) (h1:1≤n) (h3:n≤3) (hm:∀ m ∈ l,m.size=32) (hd:d.size=16*(n+2)) (hx:text.size≤268435456) (F:FileF l d text b H PD KY FK ss bs mac n):
  Calls Tryz.prog 26 #[v,.string d,.string text,.string b] w (KnownP v l d text b H KY w):=by
 have hEl:=Ref.encF_len (key:=KY.data.toList) (by rw[ba_len,F.ky]) text.data.toList
 have hbz:=F.bz
 have hHs:=F.hs
 have hfn:=Ref.full_nums text.data.toList.length
 have htl:text.data.toList.length=text.size:=ba_len _
 have hbs:b.size≤34359738368:=by omega
 have HTO:=hide (topOf_any b)
 have HPA:=hide (fun w=>pParse_any H w (by omega))
 rw[F.par] at HPA
 change Hid (∀ w,Calls Tryz.prog 31 #[.string H] w fun e w'=>∃ vs vb,e = .returned (.tuple #[.agg #[vs,vb,.string mac],.int .i64 0]) ∧
   Row w' w.heap.size 9 1 vs ss.length (strV ss)∧Row w' w.heap.size 9 1 vb bs.length (strV bs)∧Below w.heap.size w w') at HPA
 have HF:=hide F
 have HT:=hide ht
 have HV:=hide hv
 have HV2:=hide hv
 have HM:=hide hm
 obtain ⟨ao,cp,hvv⟩:=hv.len
 rw[F.hn] at hvv
 subst hvv
 obtain ⟨T,hT⟩:∃ T:Nat,H.size=T:=⟨_,rfl⟩
 have e0:=F.e0
 rw[hT] at e0 hHs hbz
 have HHT:=hide hT
 obtain ⟨N,hN⟩:∃ N:Nat,b.size=N:=⟨_,rfl⟩
 have HBN:=hide hN
 have hTN:T+16≤N:=by omega
 have j1:¬ (T:Int)<45:=by omega
 have j2:¬ (N:Int)<(T:Int)+16:=by omega
 have hT3:T≤284:=by omega
 have hB0:Blk (w.alloc (.cells (fileCells (.slice ao n cp) text d b 0 ⟨#[]⟩ (.slice none 0 0)).toArray 27)) w.heap.size 27 (fileCells (.slice ao n cp) text d b 0 ⟨#[]⟩ (.slice none 0 0)):=Blk.new rfl rfl
 have hbA:Below w.heap.size w (w.alloc (.cells (fileCells (.slice ao n cp) text d b 0 ⟨#[]⟩ (.slice none 0 0)).toArray 27)):=(Below.refl _ _).alloc (Nat.le_refl _) _
 obtain ⟨w1,hw1⟩:∃ x,w.alloc (.cells (fileCells (.slice ao n cp) text d b 0 ⟨#[]⟩ (.slice none 0 0)).toArray 27)=x:=⟨_,rfl⟩
 rw[hw1] at hB0 hbA
 have HTO1:=hide (HTO.out w1 (by omega))
 have f1:=hB0.frozen
 have c4:=(hB0.setCell_same 4 (.int .i64 (T:Nat))).cell (i:=4) rfl
 have c40:=hB0.cell (i:=4) rfl
 have HB2:=hide (show Blk (w1.setCell ⟨w.heap.size,4,none⟩ (.int .i64 (T:Nat))) w.heap.size 27 (fileCells (.slice ao n cp) text d b (T:Nat) ⟨#[]⟩ (.slice none 0 0)) from hB0.setCell_same 4 _)
 have HBE2:=hide (hbA.setCell (p:=⟨w.heap.size,4,none⟩) (Nat.le_refl _) (.int .i64 (T:Nat)))
 have HTR:=hide (fun r h=>(F.topO h3 (r:=r) h).trans (by rw[hT]))
 clear F ht hv hm hEl hbz hHs hfn htl hT hB0 hbA HTO
 go_enter Tryz.func26,Tryz.ntmps26
 go_wp2_with fail
 rw[show w.alloc (.cells #[.slice ao n cp,.string text,.string d,.string b,.int .i64 0,.string ⟨#[]⟩,.slice none 0 0] 27)=w1 from hw1]
 refine HTO1.out.mono ?_
 rintro e w1' ⟨r,hr,rfl,rfl⟩
 obtain rfl:=HTR.out r hr
 clear hw1 HTO1 HTR hr
 obtain ⟨w2,hw2⟩:∃ x,w1'.setCell ⟨w.heap.size,4,none⟩ (.int .i64 (T:Nat))=x:=⟨_,rfl⟩
 rw[hw2] at c4 HB2 HBE2
 go_wp2_with fail
 refine (HPA.out _).mono ?_
 rintro e w3 ⟨vs,vc,rfl,hr1,hr2,hb3⟩
 have hbB:Below w3.heap.size w3 (w3.alloc (.cells #[vs,vc,.string mac] 70)):=(Below.refl _ _).alloc (Nat.le_refl _) _
 have hbC:Below w2.heap.size w2 (w3.alloc (.cells #[vs,vc,.string mac] 70)):=hb3.trans (hbB.mono hb3.size)
 have hB3:Blk (w3.alloc (.cells #[vs,vc,.string mac] 70)) w3.heap.size 70 [vs,vc,.string mac]:=Blk.new rfl rfl
 have hK3:KN w (fileCells (.slice ao n cp) text d b (T:Nat) ⟨#[]⟩ (.slice none 0 0)) w3.heap.size vs vc mac (.slice ao n cp) l ss bs (w3.alloc (.cells #[vs,vc,.string mac] 70)):=
  ⟨HB2.out.below hbC HB2.out.lt,hB3,(HT.out.below HBE2.out HT.out.two).after hbC,(HV.out.below HBE2.out HV.out.blt).after hbC,(Row.strs hr1).after hbB,(Row.strs hr2).after hbB,HBE2.out.trans (hbC.mono HBE2.out.size)⟩
 have HK3:=hide hK3
 have hss:=HF.out.nss
 have hbl:bs.length=n:=by rw[HF.out.ok.nb,hss]
 rw[hss] at hr1
 rw[hbl] at hr2
 obtain ⟨o1,c1,rfl,_⟩:=Row.anyN hr1
 obtain ⟨o2,c2,rfl,_⟩:=Row.anyN hr2
 have k0:=hK3.head.cell (i:=0) rfl
 obtain ⟨A,B,t1,t2,hA,hBB,t3,t4⟩:=known_nums (n+1) n (by omega) (by omega)
 have hfk:=HF.out.fkd.symm
 rw[←hA,←hBB] at hfk
 have j3:(B:Int)≤(d.size:Int):=by omega
 have HAB:=hide (And.intro hA (And.intro hBB hd))
 clear hA hBB hd
 obtain ⟨w4,hw4⟩:∃ x,w3.alloc (.cells #[.slice o1 n c1,.slice o2 n c2,.string mac] 70)=x:=⟨_,rfl⟩
 rw[hw4] at HK3 k0
 clear hr1 hr2 hb3 hbB hbC hB3 hK3 HPA HB2 HBE2 c4 f1 c40 HT HV
 go_wp2
 clear k0
 obtain ⟨fc,hfc⟩:∃ x,fileCells (.slice ao n cp) text d b (T:Nat) ⟨#[]⟩ (.slice none 0 0)=x:=⟨_,rfl⟩
 rw[hfc] at HK3
 have HFC:=hide hfc
 clear hfc t1 t2 t3 t4
 obtain ⟨hb,hhb⟩:∃ x:Nat,w3.heap.size=x:=⟨_,rfl⟩
 rw[hhb] at HK3 ⊢
 go_loopw [15] (fun v wr=>∃ i:Nat,i≤n∧v = .int .i64 (i:Nat)∧KN w fc hb (.slice o1 n c1) (.slice o2 n c2) mac (.slice ao n cp) l ss bs wr) (fun v _=>n-(intOf v).toNat)
 case atStart=>exact ⟨0,Nat.zero_le _,rfl,HK3.out⟩
 case round=>
  clear HK3
  obtain ⟨i,hi,rfl,hK⟩:=hrel
  have HK:=hide hK
  by_cases hlt:i<n
  ·have jl:(i:Int)<(n:Int):=by omega
   obtain ⟨g0,p0,q0,hv0,hgl0,e0⟩:=hK.s0.at i (by rw[HF.out.hn];exact hlt)
   injection hv0 with hv0 hv0n hv0c
   clear hv0n
   obtain ⟨g1,p1,q1,hv1,hgl1,e1⟩:=hK.s1.at i (by rw[HF.out.nss];exact hlt)
   injection hv1 with hv1 hv1n hv1c
   clear hv1n
   obtain ⟨g2,p2,q2,hv2,hgl2,e2⟩:=hK.s2.at i (by rw[HF.out.ok.nb,HF.out.nss];exact hlt)
   injection hv2 with hv2 hv2n hv2c
   clear hv2n
   subst hv0
   subst hv0c
   subst hv1
   subst hv1c
   subst hv2
   subst hv2c
   have hsal:=HF.out.sal i hlt
   have hbod:=HF.out.bod i hlt
   have hm32:(l.getD i ⟨#[]⟩).size=32:=by
    have hil:i<l.length:=by rw[HF.out.hn];exact hlt
    rw[List.getD_eq_getElem?_getD,List.getElem?_eq_getElem hil]
    exact HM.out _ (List.getElem_mem hil)
   have hs16:(ss.getD i ⟨#[]⟩).size≤16:=by rw[hsal,ByteArray.size_extract];omega
   obtain ⟨A1,B1,t1,t2,hA1,hB1,t3,t4⟩:=known_nums n i (by omega) hlt
   rw[←hA1,←hB1] at hsal
   have j4:(B1:Int)≤(d.size:Int):=by have:=HAB.out.2.2;omega
   have hfz:=HF.out.fk
   generalize l.getD i ⟨#[]⟩=mi at *
   generalize ss.getD i ⟨#[]⟩=si at *
   generalize bs.getD i ⟨#[]⟩=bi at *
   have k0:=hK.head.cell (i:=0) rfl
   have hhl:hb<wr.heap.size:=hK.head.lt
   have HKY:=hide (kKey_any mi si ⟨#[119,114,97,112]⟩ wr.drew (by omega) (by omega) (by decide) hK.tb.k hK.tb.h hK.tb.two)
   rw[show (expO (macL si.data.toList mi.data.toList) (⟨#[119,114,97,112]⟩:ByteArray).data.toList 1).take 32=Ref.keyL mi.data.toList si.data.toList Ref.inWrap from rfl] at HKY
   have hkz:(⟨(Ref.keyL mi.data.toList si.data.toList Ref.inWrap).toArray⟩:ByteArray).size=32:=by rw[two_size,Ref.keyL_len]
   have HSE:=hide (fun w=>sealAt ⟨(Ref.keyL mi.data.toList si.data.toList Ref.inWrap).toArray⟩ ⟨(nought 12).toArray⟩ FK w hkz rfl (by omega))
   rw[two_toList,two_toList,←hbod] at HSE
   generalize (⟨(Ref.keyL mi.data.toList si.data.toList Ref.inWrap).toArray⟩:ByteArray)=kk at *
   have HLT:=hide hlt
   have HCL:=hide (And.intro e1 e2)
   have HGL:=hide (And.intro hgl1 hgl2)
   have hs1:=hsal.symm
   clear hK hbod hsal hkz hlt hA1 hB1 hs16 hm32 hfz hi
   go_wp2
   go_region_held3 (fun w'=>w'.cell? ⟨g0,p0+i,none⟩=some (.string mi)∧w'.cell? ⟨hb,0,none⟩=some (.slice (some ⟨g1,p1,none⟩) n c1)∧w'.cell? ⟨g1,p1+i,none⟩=some (.string si)) (refine ⟨?_,?_,?_⟩ <;> first | assumption | (exact (hb5.cell hgl0).trans (by assumption)) | (exact (hb5.cell hhl).trans (by assumption)) | (exact (hb5.cell hgl1).trans (by assumption))) ((go_at_call 32;refine HKY.out.mono ?_;rintro e w5 ⟨rfl,hb5⟩))
   rename_i hH
   clear hH
   have hbd:Below wr.heap.size wr w5:=(show Below wr.heap.size wr wr.drew from ⟨rfl,rfl,rfl,Nat.le_refl _,fun _ _=>rfl⟩).trans hb5
   have K5:=hide (HK.out.after hbd)
   have HC5:=hide (And.intro ((hbd.cell HGL.out.1).trans HCL.out.1) ((hbd.cell HGL.out.2).trans HCL.out.2))
   have HG5:=hide (show g1<w5.heap.size∧g2<w5.heap.size from ⟨Nat.lt_of_lt_of_le HGL.out.1 hbd.size,Nat.lt_of_lt_of_le HGL.out.2 hbd.size⟩)
   clear hb5 hbd HK HCL HGL HKY k0 e0 e1 e2 hgl0 hgl1 hgl2 hhl
   go_wp2_with fail
   refine (zeros_any _).mono ?_
   rintro e w6 ⟨rfl,hb6⟩
   have K6:=hide (K5.out.after hb6)
   have HC6:=hide (And.intro ((hb6.cell HG5.out.1).trans HC5.out.1) ((hb6.cell HG5.out.2).trans HC5.out.2))
   have HG6:=hide (show g1<w6.heap.size∧g2<w6.heap.size from ⟨Nat.lt_of_lt_of_le HG5.out.1 hb6.size,Nat.lt_of_lt_of_le HG5.out.2 hb6.size⟩)
   clear hb6 K5 HC5 HG5
   go_wp2_with fail
   refine (HSE.out _).mono ?_
   rintro e w7 ⟨rfl,hb7⟩
   have K7:=hide (K6.out.after hb7)
   have d1:=(hb7.cell HG6.out.1).trans HC6.out.1
   have d2:=(hb7.cell HG6.out.2).trans HC6.out.2
   have k0:=K7.out.head.cell (i:=0) rfl
   have k1:=K7.out.head.cell (i:=1) rfl
   clear hb7 K6 HC6 HG6 HSE
   go_wp2
   go_quiet (fail)
   go_wp2
   go_roundw
   case rel=>exact ⟨i+1,HLT.out,by go_num,K7.out.after (below_drewN (Below.refl _ _) _)⟩
   case measure=>have:=HLT.out;simp[intOf];omega
  ·obtain rfl:i=n:=by omega
   have jl:¬ (i:Int)<(i:Int):=by omega
   have hfz:=HF.out.fk
   have hpz:=HF.out.pd
   have HKH:=hide (kKey_any FK ⟨#[]⟩ ⟨#[104,101,97,100,101,114]⟩ wr (by omega) (by decide) (by decide) hK.tb.k hK.tb.h hK.tb.two)
   rw[show (expO (macL (⟨#[]⟩:ByteArray).data.toList FK.data.toList) (⟨#[104,101,97,100,101,114]⟩:ByteArray).data.toList 1).take 32=Ref.keyL FK.data.toList [] Ref.inHead from rfl] at HKH
   obtain ⟨E,hE⟩:∃ E:Nat,T-45=E:=⟨_,rfl⟩
   have tE:(T:Int)-45=(E:Int):=by omega
   have jE:(E:Int)≤(N:Int):=by omega
   have hmc:=HF.out.mc
   rw[HHT.out,hE] at hmc
   have HMA:=hide (fun (w':World) (t:Tabs w')=>hmac_any ⟨(Ref.keyL FK.data.toList [] Ref.inHead).toArray⟩ (b.extract 0 E) w' (by rw[two_size,Ref.keyL_len];decide) (by rw[ByteArray.size_extract];omega) t.k t.h t.two)
   rw[two_toList,hmc] at HMA
   have HMM:=hide (show (⟨mac.data.toList.toArray⟩:ByteArray)=mac from ba_ext rfl)
   rw[HMM.out] at HMA
   generalize (⟨(Ref.keyL FK.data.toList [] Ref.inHead).toArray⟩:ByteArray)=hk at *
   have hpd:=HF.out.e1
   rw[HHT.out] at hpd
   have hpdd:=HF.out.pdd.symm
   have HKP:=hide (fun (w':World) (t:Tabs w')=>kKey_any FK PD ⟨#[112,97,121,108,111,97,100]⟩ w' (by omega) (by omega) (by decide) t.k t.h t.two)
   rw[show (expO (macL PD.data.toList FK.data.toList) (⟨#[112,97,121,108,111,97,100]⟩:ByteArray).data.toList 1).take 32=Ref.keyL FK.data.toList PD.data.toList Ref.inBody from rfl,←HF.out.key,show (⟨KY.data.toList.toArray⟩:ByteArray)=KY from ba_ext rfl] at HKP
   obtain ⟨T2,hT2⟩:∃ x:Nat,T+16=x:=⟨_,rfl⟩
   rw[hT2] at hpd
   have tT2:(T:Int)+16=(T2:Int):=by omega
   have jT2:(T2:Int)≤(N:Int):=by omega
   have jT1:(T:Int)≤(T2:Int):=by omega
   obtain ⟨B5,hB5⟩:∃ x:Nat,(i+1)*16=x:=⟨_,rfl⟩
   have tB5:((i:Int)+1)*16=(B5:Int):=by omega
   have jB5:(B5:Int)≤(d.size:Int):=by have:=HAB.out.2.2;omega
   rw[hB5] at hpdd
   have hbe:(b.extract T2 N).data.toList=Ref.encF KY.data.toList text.data.toList:=by
    have h:=HF.out.e2
    rw[HHT.out,hT2,HBN.out] at h
    exact h
   have HBX:=hide (fun w=>boxes_any (b.extract T2 N) w (by rw[ByteArray.size_extract];omega))
   have hbn:Ref.boxN (b.extract T2 N).size=Ref.full text.size+1:=by
    rw[←ba_len,hbe,Ref.encF_boxN (by rw[ba_len,HF.out.ky]),ba_len]
   rw[hbn,hbe] at HBX
   have HK:=hide hK
   clear hK hmc hE hT2 hB5 hbe hbn hfz hpz hi
   go_wp2_with fail
   refine HKH.out.mono ?_
   rintro e w5 ⟨rfl,hb5⟩
   have K5:=hide (HK.out.after hb5)
   have HM5:=hide (HMA.out w5 K5.out.tb)
   have hf5:=K5.out.file
   rw[←HFC.out] at hf5
   have q4:=hf5.cell (i:=4) rfl
   clear hb5 HK HKH HMA hf5
   go_wp2_with fail
   refine HM5.out.mono ?_
   rintro e w6 ⟨rfl,hb6⟩
   have K6:=hide (K5.out.after hb6)
   have hf6:=K6.out.file
   rw[←HFC.out] at hf6
   have q4:=hf6.cell (i:=4) rfl
   have k2:=K6.out.head.cell (i:=2) rfl
   clear hb6 K5 HM5 hf6
   go_wp2
   go_quiet (fail)
   have K6b:=hide (K6.out.after (below_drewN (Below.refl _ _) nq))
   obtain ⟨w6b,hw6b⟩:∃ x,w6.drewN nq=x:=⟨_,rfl⟩
   rw[hw6b] at K6b
   have hk2:w6b.cell? ⟨hb,2,none⟩=some (.string mac):=K6b.out.head.cell (i:=2) rfl
   have HK6:=hide (HKP.out w6b K6b.out.tb)
   rw[hw6b]
   clear hw6b K6 HKP k2 q4
   go_wp2_with fail
   refine HK6.out.mono ?_
   rintro e w7 ⟨rfl,hb7⟩
   have K7:=hide (K6b.out.after hb7)
   have hf7:=K7.out.file
   rw[←HFC.out] at hf7
   have f7:=hf7.frozen
   have q5:=hf7.cell (i:=5) rfl
   have hf8:=hf7.setCell_same 5 (.string KY)
   have q4:=hf8.cell (i:=4) rfl
   have HF8:=hide (show Blk (w7.setCell ⟨w.heap.size,5,none⟩ (.string KY)) w.heap.size 27 (fileCells (.slice ao i cp) text d b (T:Nat) KY (.slice none 0 0)) from hf8)
   have HB8:=hide (K7.out.be.setCell (p:=⟨w.heap.size,5,none⟩) (Nat.le_refl _) (.string KY))
   have HS8:=hide (HV2.out.below HB8.out HV2.out.blt)
   obtain ⟨w8,hw8⟩:∃ x,w7.setCell ⟨w.heap.size,5,none⟩ (.string KY)=x:=⟨_,rfl⟩
   rw[hw8] at q4 HF8 HB8 HS8
   clear hb7 K6b HK6 hf7 hf8 K7 hk2
   go_wp2_with fail
   refine (HBX.out _).mono ?_
   rintro e w9 ⟨vb,rfl,hr9,hb9⟩
   have HF9:=hide (HF8.out.below hb9 HF8.out.lt)
   have HB9:=hide (HB8.out.trans (hb9.mono HB8.out.size))
   have f9:=HF9.out.frozen
   have q6:=HF9.out.cell (i:=6) rfl
   obtain ⟨o9,c9,rfl,_⟩:=Row.anyN hr9
   obtain ⟨M,hM⟩:∃ x:Nat,Ref.full text.size+1=x:=⟨_,rfl⟩
   rw[hM] at hr9
   have hG:=((World.grownBy.refl w9 (some w.heap.size)).setCell 6 (.slice o9 M c9))
   have hlt8:w.heap.size<w8.heap.size:=HF8.out.lt
   have hr10:=hr9.kept hG (by
    cases hv:(Value.slice o9 M c9).ownBlock with
    | none=>exact .inl rfl
    | some g=>
     refine .inr fun e=>?_
     injection e with e
     have:=(hr9.lt g hv).1
     omega)
   have HF10:=hide (show Blk (w9.setCell ⟨w.heap.size,6,none⟩ (.slice o9 M c9)) w.heap.size 27 (fileCells (.slice ao i cp) text d b (T:Nat) KY (.slice o9 M c9)) from HF9.out.setCell_same 6 _)
   have HB10:=hide (HB9.out.setCell (p:=⟨w.heap.size,6,none⟩) (Nat.le_refl _) (.slice o9 M c9))
   have hS10:Strs (w9.setCell ⟨w.heap.size,6,none⟩ (.slice o9 M c9)) (.slice o9 M c9) (Ref.boxesL (Ref.encF KY.data.toList text.data.toList) M):=Row.strs (by rw[Ref.boxesL_len];exact hr10)
   have HS10:=hide hS10
   have HSL:=hide (fsealed_any w.heap.size _ _ text d b KY (T:Nat) (Ref.boxesL (Ref.encF KY.data.toList text.data.toList) M) _ HF10.out hS10 HF.out.ky hx (by rw[Ref.boxesL_len,hM]) (boxes_right HF.out.ky hM))
   have HVB:=hide (HV2.out.below HB10.out HV2.out.blt)
   rw[hM]
   obtain ⟨w10,hw10⟩:∃ x,w9.setCell ⟨w.heap.size,6,none⟩ (.slice o9 M c9)=x:=⟨_,rfl⟩
   rw[hw10] at HF10 HB10 HS10 HSL HVB
   have HMM2:=hide hM
   clear hr9 hr10 hb9 hG hS10 HF8 HB8 HS8 HF9 HB9 HBX q4 hM
   go_wp2_with fail
   refine HSL.out.mono ?_
   rintro e w11 ⟨rfl,hb11⟩
   have HF11:=hide (HF10.out.below hb11 HF10.out.lt)
   have HS11:=hide (HS10.out.after hb11)
   have HV11:=hide (HVB.out.after hb11)
   have HB11:=hide (HB10.out.trans (hb11.mono HB10.out.size))
   clear HSL hb11 HF10 HS10 HVB HB10
   go_wp2
   refine bodyPost_ret (results_tmp2 rfl _ _ _) rfl ?_
   exact ⟨_,rfl,⟨by rw[HHT.out];exact HF11.out,HV11.out,by rw[HMM2.out];exact HS11.out⟩,HB11.out⟩
theorem getD_set_nonneg {l:List Int} (h:∀ i,0≤l.getD i 0) (k:Nat) {x:Int} (hx:0≤x):∀ i,0≤(l.set k x).getD i 0:=by
 intro i
 rw[List.getD_eq_getElem?_getD,List.getElem?_set]
 split
 ·split
  ·exact hx
  ·exact Int.le_refl 0
 ·rw[←List.getD_eq_getElem?_getD]
  exact h i
theorem calm_one {w:World} {g:Nat} {l:List Int} {k n:Nat} (hl:l.length=n) (hB:Blk w g 3 (intV l)) (hc:Src.Calm l) (x:Int) (hx:0≤x):∃ l',l'.length=n∧Src.Calm l'∧Blk (w.setCell ⟨g,k,none⟩ (.int .i64 x)) g 3 (intV l'):=
 ⟨l.set k x,by simpa using hl,getD_set_nonneg hc k hx,by rw[←intV_set];exact hB.setCell_same k _⟩
theorem calm_nums (X:Nat) (h:X<256):∃ Y:Nat,Y<128∧(X:Int).tmod 128=(Y:Int)∧(X:Int)%128=(Y:Int):=by
 refine ⟨X%128,Nat.mod_lt _ (by decide),?_,by omega⟩
 rw[Int.tmod_eq_emod_of_nonneg (by omega)]
 omega
theorem calm_any (s:ByteArray) (w:World) (hs:s.size≤1099511627776):
  Calls Tryz.prog 35 #[.string s] w fun e w'=>∃ l:List Int,l.length=s.size∧Src.Calm l∧e = .returned (.slice (some ⟨w.heap.size,0,none⟩) s.size s.size)∧Blk w' w.heap.size 3 (intV l)∧Below w.heap.size w w':=by
 have hmk:=fun w=>make_ints s.size hs w
 go_enter Tryz.func35,Tryz.ntmps35
 go_wp2
 clear hmk
 go_loopw [4] (fun i wr=>∃ (k:Nat) (l:List Int),k≤s.size∧i = .int .i64 k∧l.length=s.size∧Src.Calm l∧Blk wr w.heap.size 3 (intV l)∧Below w.heap.size w wr) (fun i _=>s.size-(intOf i).toNat)
 case atStart=>exact ⟨0,List.replicate s.size 0,by omega,rfl,by simp,fun i=>by rw[List.getD_eq_getElem?_getD,List.getElem?_replicate];split <;> exact Int.le_refl 0,Blk.new rfl rfl,(Below.refl _ _).alloc (Nat.le_refl _) _⟩
 case round=>
  obtain ⟨k,l,hk,rfl,hl,hc,hB,hbe⟩:=hrel
  by_cases hlt:k<s.size
  ·obtain ⟨x0,hx0⟩:∃ x,(intV l)[k]? = some (.int .i64 x):=⟨_,intV_at l k (by omega)⟩
   have c0:=hB.cell hx0
   clear hx0
   have f0:=hB.frozen k
   have hXl:s[k].toNat<256:=UInt8.toNat_lt _
   obtain ⟨X,hX⟩:∃ X,s[k].toNat=X:=⟨_,rfl⟩
   rw[hX] at hXl
   obtain ⟨Y,hY,tY,tY2⟩:=calm_nums X hXl
   have HL:=hide hl
   have HC:=hide hc
   clear hl hc
   by_cases h7:Y=127
   ·subst h7
    go_wp2
    go_roundw
    case rel=>
     obtain ⟨l1,h1,h2,h3⟩:=calm_one (k:=k) HL.out hB HC.out 127 (by decide)
     obtain ⟨l2,h4,h5,h6⟩:=calm_one (k:=k) h1 h3 h2 1099511627776 (by decide)
     exact ⟨k+1,l2,by omega,by go_num,h4,h5,h6,(hbe.setCell (by simp) _).setCell (by simp) _⟩
    case measure=>simp[intOf];omega
   ·have z1:((Y:Int)==127)=false:=beq_eq_false_iff_ne.2 (by omega)
    go_wp2
    go_roundw
    case rel=>
     obtain ⟨l1,h1,h2,h3⟩:=calm_one (k:=k) HL.out hB HC.out (Y:Int) (by omega)
     exact ⟨k+1,l1,by omega,by go_num,h1,h2,h3,hbe.setCell (by simp) _⟩
    case measure=>simp[intOf];omega
  ·go_wp2
   go_ret
   exact ⟨l,hl,hc,rfl,hB,hbe⟩
theorem piece_nums2 (q k:Nat) (hq:q<37) (hk:k≤900000000):∃ a b c d s r:Nat,r≤40∧(k:Int)+1=(a:Int)∧(q:Int)*(a:Int)=(b:Int)∧7*(k:Int)=(c:Int)∧(c:Int)*(k:Int)=(d:Int)∧(s:Int).tmod 41=(r:Int)∧(b:Int)+(d:Int)=(s:Int)∧a≤900000001∧b≤33300000037∧c≤6300000000∧d≤5670000000000000000∧s≤5670000033300000037:=by
 have hb:q*(k+1)≤33300000037:=Nat.le_trans (Nat.mul_le_mul (Nat.le_of_lt hq) (Nat.succ_le_succ hk)) (by decide)
 have hd:7*k*k≤5670000000000000000:=Nat.le_trans (Nat.mul_le_mul (Nat.mul_le_mul_left 7 hk) hk) (by decide)
 refine ⟨k+1,q*(k+1),7*k,7*k*k,q*(k+1)+7*k*k,(q*(k+1)+7*k*k)%41,Nat.le_of_lt_succ (Nat.mod_lt _ (by decide)),by rw[Int.natCast_add];rfl,by rw[Int.natCast_mul],by rw[Int.natCast_mul];rfl,by rw[←Int.natCast_mul],?_,by rw[←Int.natCast_add],Nat.succ_le_succ hk,hb,Nat.mul_le_mul_left 7 hk,hd,Nat.add_le_add hb hd⟩
 rw[Int.tmod_eq_emod_of_nonneg (Int.natCast_nonneg _)]
 exact (Int.natCast_emod _ 41).symm
theorem piece_wraps2 (q k:Nat) (hq:q<37) (hk:k≤900000000):∃ a b c d s r:Nat,r≤40∧wrap64 ((k:Int)+1)=(a:Int)∧wrap64 ((q:Int)*(a:Int))=(b:Int)∧wrap64 (7*(k:Int))=(c:Int)∧wrap64 ((c:Int)*(k:Int))=(d:Int)∧wrap64 ((b:Int)+(d:Int))=(s:Int)∧(s:Int).tmod 41=(r:Int)∧(s:Int)%41=(r:Int)∧wrap64 (r:Int)=(r:Int):=by
 obtain ⟨a,b,c,d,s,r,hr,e1,e2,e3,e4,e5,e6,ba,bb,bc,bd,bs⟩:=piece_nums2 q k hq hk
 refine ⟨a,b,c,d,s,r,hr,wrap64_nat e1 (Nat.le_trans ba (by decide)),wrap64_nat e2 (Nat.le_trans bb (by decide)),wrap64_nat e3 (Nat.le_trans bc (by decide)),wrap64_nat e4 (Nat.le_trans bd (by decide)),wrap64_nat e6 (Nat.le_trans bs (by decide)),e5,?_,wrap64_nat rfl (Nat.le_trans hr (by decide))⟩
 rw[←Int.tmod_eq_emod_of_nonneg (Int.natCast_nonneg _)]
 exact e5
set_option maxHeartbeats 400000 in
theorem piece_any2 (turn:Int) (k:Nat) (w:World) (h1 : -9223372036854775808≤turn) (h2:turn≤9223372036854775807) (hk:k≤900000000):
  Calls Tryz.prog 36 #[.int .i64 turn,.int .i64 (k:Nat)] w (Upto40 w):=by
 have HP:Hid (∀ w,Calls Tryz.prog 15 #[.int .i64 turn,.int .i64 ((37:Nat):Int)] w fun e w'=>e = .returned (.int .i64 (pickN turn 37:Nat))∧w'=w):=hide (fun w=>kpick_any turn 37 w h1 h2 (by decide) (by decide))
 obtain ⟨a,b,c,d,s,r,hr,t1,t2,t3,t4,t5,t6,t8,t7⟩:=piece_wraps2 (pickN turn 37) k (pickN_lt turn 37 (by decide)) hk
 generalize pickN turn 37=q at *
 have HR:=hide hr
 clear hr hk h1 h2
 go_enter Tryz.func36,Tryz.ntmps36
 go_wp2_with fail
 refine (HP.out _).mono ?_
 rintro e w1 ⟨rfl,rfl⟩
 clear HP
 go_wp2
 go_ret
 exact ⟨r,HR.out,rfl,rfl⟩
theorem tx_all (tx:ByteArray):tx.extract 0 tx.size=tx:=ba_ext (by rw[ext_take,List.take_of_length_le (by rw[ba_len];exact Nat.le_refl _)])
theorem tx_end (tx:ByteArray):ByteArray.empty=tx.extract tx.size tx.size:=ba_ext (by rw[sub_list];simp)
theorem tx_none (tx:ByteArray):tx.extract 0 0=ByteArray.empty:=ba_ext (by rw[sub_list];simp)
theorem piece_call {X tx:ByteArray} {j:Nat} (h:X.extract j X.size=tx) (a:ByteArray) (n:Nat) (ha:tx.extract 0 n=a) {v:Value} {w:World} {Q:Ending→World→Prop} (hc:Calls Tryz.prog 50 #[v,.string ((X.extract j X.size).extract 0 n)] w Q):Calls Tryz.prog 50 #[v,.string a] w Q:=by
 rw[h,ha] at hc
 exact hc
theorem tx_drop {X tx:ByteArray} {j:Nat} (h:X.extract j X.size=tx) (hj:j≤X.size) (n:Nat) {y:ByteArray} (hy:y=tx.extract n tx.size):y=X.extract (j+n) X.size:=by
 subst hy
 subst h
 apply ba_ext
 have hz:(X.extract j X.size).size=X.size-j:=by rw[ByteArray.size_extract];omega
 rw[hz,sub_list,sub_list,sub_list,List.drop_take,List.drop_drop,List.take_take]
 congr 1
 omega
theorem Snk.ok_nil {k:Snk} (h:k.plan=[]) (t:ByteArray):k.ok t=true:=by
 unfold Snk.ok sinkN
 rw[h,if_neg (by simp)]
 simp
def OkN (wb sk g:Nat) (key X:ByteArray) (hd:List UInt8) (j:Nat) (w:World):Prop:=∃ s:Ref.Wr,WRep wb sk g key s w∧Ref.Good key.data.toList X.data.toList hd j s∧s.n≤j∧s.k.got.size≤2000+32*j∧s.k.pos≤2+j∧s.k.plan=[]
def WroteN (wb sk g:Nat) (key X:ByteArray) (hd:List UInt8) (j n:Nat) (w:World) (e:Ending) (w':World):Prop:=
 e = .returned (.tuple #[.int .i64 (n:Nat),.int .i64 0])∧OkN wb sk g key X hd (j+n) w'∧Chg (fun x=>x=wb∨x=sk) w w'
theorem write_okN {w1:World} {wb sk g:Nat} {key X:ByteArray} {hd:List UInt8} {j:Nat} (n:Nat) (h:OkN wb sk g key X hd j w1) (hkey:key.size=32) (hX:X.size≤268435456) (hj:j+n≤X.size) (hwk:wb≠sk) (hwg:wb≠g) (hgk:g≠sk):
  Calls Tryz.prog 50 #[.pointer (some ⟨wb,0,none⟩),.string ((X.extract j X.size).extract 0 n)] w1 (WroteN wb sk g key X hd j n w1):=by
 obtain ⟨s,hR,hG,b1,b2,b3,b4⟩:=h
 obtain ⟨p,hp⟩:∃ p,(X.extract j X.size).extract 0 n=p:=⟨_,rfl⟩
 have hpl:p.data.toList=(X.data.toList.drop j).take n:=by rw[←hp,ext_take,sub_list,List.take_take,Nat.min_eq_left (by omega)]
 have hpn:p.data.toList.length=n:=by rw[hpl,List.length_take,List.length_drop,ba_len];omega
 have hps:p.size=n:=by rw[←ba_len,hpn]
 have hget:∀ i,i<p.data.toList.length→p.data.toList.getD i 0=X.data.toList.getD (j+i) 0:=by
  intro i hi
  rw[hpn] at hi
  rw[hpl,List.getD_eq_getElem?_getD,List.getD_eq_getElem?_getD,List.getElem?_take,if_pos hi,List.getElem?_drop]
 have hat:=hG.at p.data.toList hget (by rw[hpn,ba_len];exact hj)
 have hft:=Ref.Wr.at_fits s hR.t16 key.data.toList p.data.toList
 rw[hp]
 refine (write_any wb sk g key s p w1 hR hkey hwk hwg hgk (by omega) (by omega) (by omega)).mono ?_
 rintro e w2 (⟨r,hr,rfl,hR2,hC⟩ | ⟨i,r,hi,hr,h16,hok,rfl,hW,hS,hC⟩)
 ·rw[hps] at hr ⊢
  have f:=hft n r hr
  have f1:=f.n
  have f2:=f.got
  have f3:=f.pos
  exact ⟨rfl,⟨r,hR2,hat n r (by omega) hr,by omega,by omega,by omega,f.plan.trans b4⟩,hC⟩
 ·rw[Snk.ok_nil ((hft i r hr).plan.trans b4)] at hok
  cases hok
def ClosedN (wb sk g:Nat) (F:List UInt8) (w:World) (e:Ending) (w':World):Prop:=e = .returned (.int .i64 0)∧WEnd wb 14 w'∧(∃ k:Snk,Blk w' sk 96 (k.cells g)∧k.got=⟨F.toArray⟩)∧Chg (fun x=>x=wb∨x=sk) w w'
theorem close_okN {w1:World} {wb sk g:Nat} {key X:ByteArray} {hd:List UInt8} (h:OkN wb sk g key X hd X.size w1) (hkey:key.size=32) (hX:X.size≤268435456) (hwk:wb≠sk):
  Calls Tryz.prog 51 #[.pointer (some ⟨wb,0,none⟩)] w1 (ClosedN wb sk g (hd++Ref.encF key.data.toList X.data.toList) w1):=by
 obtain ⟨s,hR,hG,b1,b2,b3,b4⟩:=h
 rw[←ba_len] at hG
 refine (close_any wb sk g key s w1 hR hkey hwk (by omega) (by omega) (by omega)).mono ?_
 rintro e w2 ⟨rfl,hW,hS,hC⟩
 have hok:=Snk.ok_nil b4 (s.box key.data.toList true)
 have he:s.k.err (s.box key.data.toList true)=0:=by unfold Snk.err;rw[hok];rfl
 rw[hok] at hW
 rw[he]
 exact ⟨rfl,hW,⟨_,hS,ba_ext (by rw[hG.closed hok])⟩,hC⟩
def LoopN (w:World) (wb sk g:Nat) (key X:ByteArray) (hd:List UInt8) (vt vk:Value) (wr:World):Prop:=∃ j k:Nat,j≤X.size∧k≤101+j∧vt = .string (X.extract j X.size)∧vk = .int .i64 k∧OkN wb sk g key X hd j wr∧Chg (fun x=>x=wb∨x=sk) w wr
set_option maxRecDepth 100000 in
set_option maxHeartbeats 3200000 in
theorem written_any (wb sk g:Nat) (key text:ByteArray) (hd:List UInt8) (turn:Int) (w:World) (h0:OkN wb sk g key text hd 0 w) (hkey:key.size=32) (hx:text.size≤268435456) (t1 : -9223372036854775808≤turn) (t2:turn≤9223372036854775807) (hwk:wb≠sk) (hwg:wb≠g) (hgk:g≠sk):
  Calls Tryz.prog 23 #[.pointer (some ⟨wb,0,none⟩),.string text,.int .i64 turn] w fun e w'=>e = .returned (.bool true)∧(∃ k:Snk,Blk w' sk 96 (k.cells g)∧k.got=⟨(hd++Ref.encF key.data.toList text.data.toList).toArray⟩)∧Chg (fun x=>x=wb∨x=sk) w w':=by
 have HPI:=hide (fun k w hk=>piece_any turn k w t1 t2 hk)
 have HX:=hide hx
 have HKY:=hide hkey
 have HNE:=hide (And.intro hwk (And.intro hwg hgk))
 have H0:=hide h0
 have HX0:=hide (show text.extract 0 text.size=text from tx_all text)
 clear h0 hx hkey t1 t2 hwk hwg hgk
 go_enter Tryz.func23,Tryz.ntmps23
 go_wp2
 go_loopw [1,7] (fun vt vk wr=>LoopN w wb sk g key text hd vt vk wr) (fun vt vk _=>2*strLen vt+(102+text.size-(intOf vk).toNat))
 case atStart=>exact ⟨0,0,Nat.zero_le _,Nat.zero_le _,by rw[HX0.out],rfl,H0.out,Chg.refl _ _⟩
 case round=>
  clear H0 HX0
  obtain ⟨j,k,hj,hk,rfl,rfl,hok,hch⟩:=hrel
  have hxb:=HX.out
  obtain ⟨tx,htx⟩:∃ x,text.extract j text.size=x:=⟨_,rfl⟩
  have hts:tx.size=text.size-j:=by rw[←htx,ByteArray.size_extract];omega
  rw[htx]
  have HTX:=hide htx
  have HTS:=hide hts
  have HJ:=hide hj
  have HKB:=hide (show k≤268435557∧tx.size≤268435456 by omega)
  have HKJ:=hide hk
  have kb:(k:Int)≤268435557:=by omega
  have tb:(tx.size:Int)≤268435456:=by omega
  have HOK:=hide hok
  have HCH:=hide hch
  clear htx hts hj hxb hk hok hch
  by_cases hgo:0<tx.size∨k<2
  ·have HPK:=hide (fun w=>HPI.out k w (by have:=HKB.out;omega))
   by_cases h0:0<tx.size
   ·have j0:(0:Int)<(tx.size:Int):=by omega
    go_wp2_with fail
    refine (HPK.out _).mono ?_
    rintro e w9 ⟨n,hn,rfl,rfl⟩
    clear HPK
    by_cases hnm:tx.size<n
    ·have j1:(tx.size:Int)<(n:Int):=by omega
     have HWO:=hide (show Calls Tryz.prog 50 #[.pointer (some ⟨wb,0,none⟩),.string tx] w9 (WroteN wb sk g key text hd j (tx.size) w9) from piece_call HTX.out tx (tx.size) (by exact tx_all tx) (write_okN (tx.size) HOK.out HKY.out HX.out (by have:=HTS.out;have:=HJ.out;omega) HNE.out.1 HNE.out.2.1 HNE.out.2.2))
     clear HOK
     go_wp2_with fail
     refine HWO.out.mono ?_
     rintro e w10 ⟨rfl,hok2,hc10⟩
     have H2:=hide hok2
     have HC10:=hide (HCH.out.trans hc10)
     clear hok2 hc10 HWO
     go_wp2
     go_roundw
     case rel=>exact ⟨j+(tx.size),k+1,by have:=HTS.out;have:=HJ.out;omega,by have:=HKJ.out;omega,congrArg Value.string (tx_drop HTX.out HJ.out (tx.size) (tx_end tx)),by go_num,H2.out,HC10.out⟩
     case measure=>have:=HKJ.out;have:=HTS.out;have:=HJ.out;simp[intOf,strLen];omega
    ·have j1:¬ (tx.size:Int)<(n:Int):=by omega
     by_cases hn0:n=0
     ·subst hn0
      by_cases hk1:100<k
      ·have j2:(100:Int)<(k:Int):=by omega
       have HWO:=hide (show Calls Tryz.prog 50 #[.pointer (some ⟨wb,0,none⟩),.string tx] w9 (WroteN wb sk g key text hd j (tx.size) w9) from piece_call HTX.out tx (tx.size) (by exact tx_all tx) (write_okN (tx.size) HOK.out HKY.out HX.out (by have:=HTS.out;have:=HJ.out;omega) HNE.out.1 HNE.out.2.1 HNE.out.2.2))
       clear HOK
       go_wp2_with fail
       refine HWO.out.mono ?_
       rintro e w10 ⟨rfl,hok2,hc10⟩
       have H2:=hide hok2
       have HC10:=hide (HCH.out.trans hc10)
       clear hok2 hc10 HWO
       go_wp2
       go_roundw
       case rel=>exact ⟨j+(tx.size),k+1,by have:=HTS.out;have:=HJ.out;omega,by have:=HKJ.out;omega,congrArg Value.string (tx_drop HTX.out HJ.out (tx.size) (tx_end tx)),by go_num,H2.out,HC10.out⟩
       case measure=>have:=HKJ.out;have:=HTS.out;have:=HJ.out;simp[intOf,strLen];omega
      ·have j2:¬ (100:Int)<(k:Int):=by omega
       have HWO:=hide (show Calls Tryz.prog 50 #[.pointer (some ⟨wb,0,none⟩),.string ByteArray.empty] w9 (WroteN wb sk g key text hd j (0) w9) from piece_call HTX.out ByteArray.empty (0) (by exact tx_none tx) (write_okN (0) HOK.out HKY.out HX.out (by have:=HTS.out;have:=HJ.out;omega) HNE.out.1 HNE.out.2.1 HNE.out.2.2))
       clear HOK
       go_wp2_with fail
       refine HWO.out.mono ?_
       rintro e w10 ⟨rfl,hok2,hc10⟩
       have H2:=hide hok2
       have HC10:=hide (HCH.out.trans hc10)
       clear hok2 hc10 HWO
       go_wp2
       go_roundw
       case rel=>exact ⟨j+(0),k+1,by have:=HTS.out;have:=HJ.out;omega,by have:=HKJ.out;omega,congrArg Value.string (tx_drop HTX.out HJ.out (0) ((tx_all tx).symm)),by go_num,H2.out,HC10.out⟩
       case measure=>have:=HKJ.out;have:=HTS.out;have:=HJ.out;simp[intOf,strLen];omega
     ·have z0:((n:Int)==0)=false:=beq_eq_false_iff_ne.2 (by omega)
      have hle:n≤tx.size:=by omega
      have HWO:=hide (show Calls Tryz.prog 50 #[.pointer (some ⟨wb,0,none⟩),.string (tx.extract 0 n)] w9 (WroteN wb sk g key text hd j (n) w9) from piece_call HTX.out (tx.extract 0 n) (n) (by exact rfl) (write_okN (n) HOK.out HKY.out HX.out (by have:=HTS.out;have:=HJ.out;omega) HNE.out.1 HNE.out.2.1 HNE.out.2.2))
      clear HOK
      go_wp2_with fail
      refine HWO.out.mono ?_
      rintro e w10 ⟨rfl,hok2,hc10⟩
      have H2:=hide hok2
      have HC10:=hide (HCH.out.trans hc10)
      clear hok2 hc10 HWO
      go_wp2
      go_roundw
      case rel=>exact ⟨j+(n),k+1,by have:=HTS.out;have:=HJ.out;omega,by have:=HKJ.out;omega,congrArg Value.string (tx_drop HTX.out HJ.out (n) (rfl)),by go_num,H2.out,HC10.out⟩
      case measure=>have:=HKJ.out;have:=HTS.out;have:=HJ.out;simp[intOf,strLen];omega
   ·have j0:¬ (0:Int)<(tx.size:Int):=by omega
    have hk2:k<2:=by omega
    have jk:(k:Int)<2:=by omega
    go_wp2_with fail
    refine (HPK.out _).mono ?_
    rintro e w9 ⟨n,hn,rfl,rfl⟩
    clear HPK
    by_cases hnm:tx.size<n
    ·have j1:(tx.size:Int)<(n:Int):=by omega
     have HWO:=hide (show Calls Tryz.prog 50 #[.pointer (some ⟨wb,0,none⟩),.string tx] w9 (WroteN wb sk g key text hd j (tx.size) w9) from piece_call HTX.out tx (tx.size) (by exact tx_all tx) (write_okN (tx.size) HOK.out HKY.out HX.out (by have:=HTS.out;have:=HJ.out;omega) HNE.out.1 HNE.out.2.1 HNE.out.2.2))
     clear HOK
     go_wp2_with fail
     refine HWO.out.mono ?_
     rintro e w10 ⟨rfl,hok2,hc10⟩
     have H2:=hide hok2
     have HC10:=hide (HCH.out.trans hc10)
     clear hok2 hc10 HWO
     go_wp2
     go_roundw
     case rel=>exact ⟨j+(tx.size),k+1,by have:=HTS.out;have:=HJ.out;omega,by have:=HKJ.out;omega,congrArg Value.string (tx_drop HTX.out HJ.out (tx.size) (tx_end tx)),by go_num,H2.out,HC10.out⟩
     case measure=>have:=HKJ.out;have:=HTS.out;have:=HJ.out;simp[intOf,strLen];omega
    ·have j1:¬ (tx.size:Int)<(n:Int):=by omega
     have hn0:n=0:=by omega
     subst hn0
     have j2:¬ (100:Int)<(k:Int):=by omega
     have HWO:=hide (show Calls Tryz.prog 50 #[.pointer (some ⟨wb,0,none⟩),.string ByteArray.empty] w9 (WroteN wb sk g key text hd j (0) w9) from piece_call HTX.out ByteArray.empty (0) (by exact tx_none tx) (write_okN (0) HOK.out HKY.out HX.out (by have:=HTS.out;have:=HJ.out;omega) HNE.out.1 HNE.out.2.1 HNE.out.2.2))
     clear HOK
     go_wp2_with fail
     refine HWO.out.mono ?_
     rintro e w10 ⟨rfl,hok2,hc10⟩
     have H2:=hide hok2
     have HC10:=hide (HCH.out.trans hc10)
     clear hok2 hc10 HWO
     go_wp2
     go_roundw
     case rel=>exact ⟨j+(0),k+1,by have:=HTS.out;have:=HJ.out;omega,by have:=HKJ.out;omega,congrArg Value.string (tx_drop HTX.out HJ.out (0) ((tx_all tx).symm)),by go_num,H2.out,HC10.out⟩
     case measure=>have:=HKJ.out;have:=HTS.out;have:=HJ.out;simp[intOf,strLen];omega
  ·have hte:tx=ByteArray.empty:=ba_ext (by
    have h0:tx.data.toList.length=0:=by rw[ba_len];omega
    rw[List.eq_nil_of_length_eq_zero h0]
    rfl)
   have jk:¬ (k:Int)<2:=by omega
   have z2:decide ((k:Int)<2)=false:=decide_eq_false jk
   have hjx:j=text.size:=by have:=HTS.out;have:=HJ.out;omega
   have HCL:=hide (close_okN (by have h:=HOK.out;rw[hjx] at h;exact h) HKY.out HX.out HNE.out.1)
   clear HOK hjx HPI hgo
   subst hte
   go_wp2_with fail
   refine HCL.out.mono ?_
   rintro e w10 ⟨rfl,hW,hS,hc10⟩
   have HC10:=hide (HCH.out.trans hc10)
   have HCE:=hide (close_end wb 14 w10 hW (by decide))
   have HWE:=hide (fun m=>write_end wb 14 ⟨#[120]⟩ (w10.drewN m) (Blk.drewN hW m) (by decide))
   obtain ⟨K,hS,hg⟩:=hS
   have HS:=hide (And.intro hS hg)
   clear hW hS hg hc10 HCL
   go_wp2_with fail
   refine HCE.out.mono ?_
   rintro e w11 ⟨rfl,m1,rfl⟩
   clear HCE
   go_wp2_with fail
   refine (HWE.out m1).mono ?_
   rintro e w12 ⟨rfl,m2,rfl⟩
   clear HWE
   go_wp2
   go_ret
   exact ⟨rfl,⟨K,Blk.drewN HS.out.1 (m1+m2),HS.out.2⟩,HC10.out.trans (Chg.of_below (below_drewN (Below.refl _ _) (m1+m2)))⟩
end Go.Proofs.YtoifalcpfnacnaaGreatDoor
