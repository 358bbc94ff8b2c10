import Derived.Deep.Cut
import Derived.Test.YtoifalcpfnacnaaGreatDoorRows
import Derived.Test.YtoifalcpfnacnaaGreatDoorCards
import Derived.Test.YtoifalcpfnacnaaGreatDoorTie
import Derived.ProofKit
import Derived.OpenShut
import Derived.Deep.Slices
import Derived.Deep.DeepHandedRow
import Derived.Lib.LaidTab
import Derived.SizedLaws
import Derived.Stop.LaidErr
import Derived.Test.YtoifalcpfnacnaaGreatDoorBe11
namespace Go.Proofs.YtoifalcpfnacnaaGreatDoor
open Go.RowKit
set_option maxRecDepth 100000 in
set_option maxHeartbeats 1600000 in
theorem shown_any (pb:Nat) (key out:ByteArray) (vb:Value) (L:List UInt8) (fin:Bool) (K:Nat) (w:World) (hP:PayR pb key vb L w) (hk:key.size=32) (ho:out.size≤1099511627776) (hL:L.length≤1099511627776) (h:Ref.Shows key.data.toList L out.data.toList fin K):
  Calls Tryz.prog 44 #[.pointer (some ⟨pb,0,none⟩),.string out,.bool fin] w fun e w'=>e = .returned (.int .i64 (K:Nat))∧Below w.heap.size w w':=by
 obtain ⟨N,hN⟩:∃ N:Nat,out.size=N:=⟨_,rfl⟩
 have hcond:=h.cond
 rw[ba_len,hN] at hcond
 have hKN:K≤N+1:=by
  rcases Nat.lt_or_ge (N+1) K with q | q
  ·rcases (hcond (N+1)).2 q with q2 | ⟨_,q2⟩ <;> omega
  ·exact q
 have hall:=h.all
 rw[ba_len,hN] at hall
 obtain ⟨ao,cp,rfl⟩:=hP.bx.len
 rw[Ref.boxesL_len] at hP
 obtain ⟨B,hB⟩:∃ B:Nat,Ref.boxN L.length=B:=⟨_,rfl⟩
 rw[hB] at hP hall
 have hbn:=Ref.boxN_nums L.length
 rw[hB] at hbn
 have HST:=hide h.st
 have HP:=hide hP
 have HNN:=hide hN
 have HCH:=hide (fun i w (hi:i≤1099511627776)=>chunk_any out i w ho hi)
 have HSA:=hide (fun i (c:ByteArray) (w:World) (p:PayR pb key (.slice ao B cp) L w) (hc:c.size≤1000) s=>stands_any pb key c (.slice ao B cp) L i w p hk hc hL s)
 have HB:=hide hbn
 clear hP h hB hbn
 go_enter Tryz.func44,Tryz.ntmps44
 go_wp2
 go_loopw [7] (fun v wr=>∃ n:Nat,n≤K∧v = .int .i64 (n:Nat)∧PayR pb key (.slice ao B cp) L wr∧Below w.heap.size w wr) (fun v _=>K-(intOf v).toNat)
 case atStart=>exact ⟨0,Nat.zero_le _,rfl,HP.out,Below.refl _ _⟩
 case round=>
  clear HP
  obtain ⟨n,hn,rfl,hP,hbe⟩:=hrel
  have HP:=hide hP
  have HBE:=hide hbe
  have p1:=hP.blk.cell (i:=1) rfl
  clear hP hbe
  obtain ⟨M,hM⟩:∃ M:Nat,n*16=M:=⟨_,rfl⟩
  have tM:(n:Int)*16=(M:Int):=by omega
  by_cases hlt:n<K
  ·have hst:=HST.out n hlt
   have HC1:=hide (fun w=>HCH.out n w (by omega))
   have hcl:(Ref.chunkL out.data.toList n).length≤16:=by unfold Ref.chunkL;rw[List.length_take];omega
   have HS1:=hide (fun w p=>HSA.out n ⟨(Ref.chunkL out.data.toList n).toArray⟩ w p (by rw[two_size];omega) (by rw[two_toList];exact hst))
   generalize (⟨(Ref.chunkL out.data.toList n).toArray⟩:ByteArray)=cc at *
   have hc:=(hcond n).2 hlt
   have HLT:=hide hlt
   clear hst hcl HCH HSA HST hcond hlt
   by_cases h16:M<N
   ·have j1:(M:Int)<(N:Int):=by omega
    have hMb:M≤1099511627776:=by omega
    clear hc
    go_wp2_with fail
    refine (HC1.out _).mono ?_
    rintro e w1 ⟨rfl,rfl⟩
    have HS2:=hide (HS1.out _ HP.out)
    clear HC1 HS1
    go_wp2_with fail
    refine HS2.out.mono ?_
    rintro e w2 ⟨rfl,b2⟩
    have HP2:=hide (HP.out.after b2)
    have HBE2:=hide (HBE.out.trans (b2.mono HBE.out.size))
    clear HS2 b2 HP HBE
    go_wp2
    go_roundw
    case rel=>exact ⟨n+1,HLT.out,by go_num,HP2.out,HBE2.out⟩
    case measure=>have:=HLT.out;simp[intOf];omega
   ·have j1:¬ (M:Int)<(N:Int):=by omega
    rcases hc with hc | ⟨rfl,rfl⟩
    ·omega
    ·obtain rfl:M=0:=by omega
     go_wp2_with fail
     refine (HC1.out _).mono ?_
     rintro e w1 ⟨rfl,rfl⟩
     have HS2:=hide (HS1.out _ HP.out)
     clear HC1 HS1
     go_wp2_with fail
     refine HS2.out.mono ?_
     rintro e w2 ⟨rfl,b2⟩
     have HP2:=hide (HP.out.after b2)
     have HBE2:=hide (HBE.out.trans (b2.mono HBE.out.size))
     clear HS2 b2 HP HBE
     go_wp2
     go_roundw
     case rel=>exact ⟨0+1,HLT.out,by go_num,HP2.out,HBE2.out⟩
     case measure=>have:=HLT.out;simp[intOf];omega
  ·obtain rfl:n=K:=by omega
   have hc:¬ (16*n<N∨(fin=true∧n=0)):=fun q=>hlt ((hcond n).1 q)
   have j1:¬ (M:Int)<(N:Int):=by omega
   clear HCH HSA HST hcond hlt
   cases fin with
   | false=>
    clear hall hc
    go_wp2
    go_ret
    exact ⟨rfl,HBE.out⟩
   | true=>
    have hn0:n≠0:=fun e=>hc (.inr ⟨rfl,e⟩)
    obtain ⟨hnB,hn2⟩:=hall rfl
    subst hnB
    have z0:((n:Int)==0)=false:=beq_eq_false_iff_ne.2 (by omega)
    clear hall hc
    by_cases h1:1<n
    ·have j2:(1:Int)<(n:Int):=by omega
     obtain ⟨n1,hn1⟩:∃ n1:Nat,n-1=n1:=⟨_,rfl⟩
     obtain ⟨M1,hM1⟩:∃ M1:Nat,n1*16=M1:=⟨_,rfl⟩
     have tn1:(n:Int)-1=(n1:Int):=by omega
     have tM1:(n1:Int)*16=(M1:Int):=by omega
     have j3:¬ (N:Int)≤(M1:Int):=by have:=hn2 h1;omega
     clear hn2
     go_wp2
     go_ret
     exact ⟨rfl,HBE.out⟩
    ·have j2:¬ (1:Int)<(n:Int):=by omega
     clear hn2
     go_wp2
     go_ret
     exact ⟨rfl,HBE.out⟩
def FX (fb:Nat) (text KY:ByteArray) (w:World):Prop:=∃ v vb l d b H,FileR fb v vb l d text b H KY w
theorem FileR.after {fb:Nat} {v vb:Value} {l:List ByteArray} {d text b H KY:ByteArray} {w w':World} (h:FileR fb v vb l d text b H KY w) (hb:Below w.heap.size w w'):FileR fb v vb l d text b H KY w':=⟨h.blk.below hb h.blk.lt,h.ms.after hb,h.bx.after hb⟩
theorem FX.after {fb:Nat} {text KY:ByteArray} {w w':World} (h:FX fb text KY w) (hb:Below w.heap.size w w'):FX fb text KY w':=by
 obtain ⟨v,vb,l,d,b,H,h⟩:=h
 exact ⟨v,vb,l,d,b,H,h.after hb⟩
structure WldR (wb fs fb gb:Nat) (t1 k1 t2 k2:ByteArray) (w:World):Prop where
 wld:Blk w wb 43 [.slice (some ⟨fs,0,none⟩) 2 2]
 fls:Blk w fs 22 [.pointer (some ⟨fb,0,none⟩),.pointer (some ⟨gb,0,none⟩)]
 f:FX fb t1 k1 w
 g:FX gb t2 k2 w
theorem WldR.after {wb fs fb gb:Nat} {t1 k1 t2 k2:ByteArray} {w w':World} (h:WldR wb fs fb gb t1 k1 t2 k2 w) (hb:Below w.heap.size w w'):WldR wb fs fb gb t1 k1 t2 k2 w':=
 ⟨h.wld.below hb h.wld.lt,h.fls.below hb h.fls.lt,h.f.after hb,h.g.after hb⟩
structure LgS (w:World) (wb fs fb gb:Nat) (t1 k1 t2 k2:ByteArray) (pb:Nat) (key:ByteArray) (vb:Value) (L:List UInt8) (wi:World):Prop where
 wl:WldR wb fs fb gb t1 k1 t2 k2 wi
 py:PayR pb key vb L wi
 be:Below w.heap.size w wi
theorem LgS.after {w:World} {wb fs fb gb:Nat} {t1 k1 t2 k2:ByteArray} {pb:Nat} {key:ByteArray} {vb:Value} {L:List UInt8} {wi wj:World} (h:LgS w wb fs fb gb t1 k1 t2 k2 pb key vb L wi) (hb:Below wi.heap.size wi wj):LgS w wb fs fb gb t1 k1 t2 k2 pb key vb L wj:=
 ⟨h.wl.after hb,h.py.after hb,h.be.trans (hb.mono h.be.size)⟩
def LgR (w:World) (wb fs fb gb:Nat) (t1 k1 t2 k2:ByteArray) (pb:Nat) (key:ByteArray) (vb:Value) (L:List UInt8) (v1 v2 v3:Value) (wr:World):Prop:=
 ∃ (k cnt:Nat) (pv:Option Addr),v1 = .pointer pv∧v2 = .int .i64 (cnt:Nat)∧v3 = .int .i64 (k:Nat)∧k≤2∧cnt≤k∧(cnt=1→∃ xb text,pv=some ⟨xb,0,none⟩∧text.size≤268435456∧FX xb text key wr)∧LgS w wb fs fb gb t1 k1 t2 k2 pb key vb L wr
theorem drewB (w:World) (n:Nat):Below w.heap.size w (w.drewN n):=below_drewN (Below.refl _ _) n
set_option maxRecDepth 100000 in
set_option maxHeartbeats 1600000 in
theorem logged_any (wb fs fb gb:Nat) (t1 k1 t2 k2:ByteArray) (pb:Nat) (key out:ByteArray) (vb:Value) (L:List UInt8) (fin:Bool) (K:Nat) (w:World) (hW:WldR wb fs fb gb t1 k1 t2 k2 w) (hx1:t1.size≤268435456) (hx2:t2.size≤268435456) (hP:PayR pb key vb L w) (hk:key.size=32) (ho:out.size≤1099511627776) (hL:L.length≤1099511627776) (h:Ref.Shows key.data.toList L out.data.toList fin K):
  Calls Tryz.prog 45 #[.pointer (some ⟨wb,0,none⟩),.pointer (some ⟨pb,0,none⟩),.int .i64 (K:Nat),.string out,.bool fin] w fun e w'=>e = .returned (.bool true)∧Below w.heap.size w w':=by
 have hKN:K≤1099511627777:=by
  have hcond:=h.cond
  rw[ba_len] at hcond
  rcases Nat.lt_or_ge 1099511627777 K with q | q
  ·rcases (hcond 1099511627777).2 q with q2 | ⟨_,q2⟩ <;> omega
  ·exact q
 have HLG:=hide (fun (text:ByteArray) hs=>h.logged (text:=text.data.toList) (by rw[ba_len,hk]) hs)
 have HST:=hide h.st
 have H0:=hide (show LgS w wb fs fb gb t1 k1 t2 k2 pb key vb L w from ⟨hW,hP,Below.refl _ _⟩)
 have HX:=hide (And.intro hx1 hx2)
 have HL:=hide hL
 clear h hW hP hx1 hx2 hL ho hk
 go_enter Tryz.func45,Tryz.ntmps45
 go_wp2
 go_loopw [11,12,13] (fun v1 v2 v3 wr=>LgR w wb fs fb gb t1 k1 t2 k2 pb key vb L v1 v2 v3 wr) (fun _ _ v3 _=>2-(intOf v3).toNat)
 case atStart=>exact ⟨0,0,none,rfl,rfl,rfl,by decide,by decide,(fun h=>by cases h),H0.out⟩
 case round=>
  clear H0
  obtain ⟨k,cnt,pv,rfl,rfl,rfl,hk2,hck,hone,hS⟩:=hrel
  have HS:=hide hS
  have q0:=hS.wl.wld.cell (i:=0) rfl
  by_cases hlt:k<2
  ·have p0:=hS.py.blk.cell (i:=0) rfl
   have HON:=hide hone
   clear hone HLG HST
   rcases (show k=0∨k=1 by omega) with rfl | rfl
   ·have r0:=hS.wl.fls.cell (i:=0) rfl
    have hf:=hS.wl.f
    have hF:=hS.wl.f
    obtain ⟨_,_,_,_,_,_,hR⟩:=hf
    have s5:=hR.blk.cell (i:=5) rfl
    obtain rfl:cnt=0:=by omega
    by_cases he:k1=key
    ·subst he
     have HF:=hide hF
     clear hS hR hF
     go_wp2
     go_quiet (fail)
     go_wp2
     go_roundw
     case rel=>exact ⟨1,1,some ⟨fb,0,none⟩,rfl,rfl,rfl,by decide,by decide,fun _=>⟨fb,t1,rfl,HX.out.1,HF.out.after (drewB _ _)⟩,HS.out.after (drewB _ _)⟩
     case measure=>simp[intOf]
    ·have zk:(k1.toList==key.toList)=false:=str_ne (fun e=>he (ba_ext e))
     clear hS hR hF he
     go_wp2
     go_quiet (fail)
     go_wp2
     go_roundw
     case rel=>exact ⟨1,0,pv,rfl,rfl,rfl,by decide,by decide,(fun h=>by cases h),HS.out.after (drewB _ _)⟩
     case measure=>simp[intOf]
   ·have r0:=hS.wl.fls.cell (i:=1) rfl
    have hf:=hS.wl.g
    have hF:=hS.wl.g
    obtain ⟨_,_,_,_,_,_,hR⟩:=hf
    have s5:=hR.blk.cell (i:=5) rfl
    by_cases he:k2=key
    ·subst he
     have HF:=hide hF
     have HC:=hide hck
     clear hS hR hF
     go_wp2
     go_quiet (fail)
     go_wp2
     go_roundw
     case rel=>exact ⟨2,cnt+1,some ⟨gb,0,none⟩,rfl,by go_num,rfl,by decide,by have:=HC.out;omega,fun _=>⟨gb,t2,rfl,HX.out.2,HF.out.after (drewB _ _)⟩,HS.out.after (drewB _ _)⟩
     case measure=>simp[intOf]
    ·have zk:(k2.toList==key.toList)=false:=str_ne (fun e=>he (ba_ext e))
     have HC:=hide hck
     clear hS hR hF he
     go_wp2
     go_quiet (fail)
     go_wp2
     go_roundw
     case rel=>
      refine ⟨2,cnt,pv,rfl,rfl,rfl,by decide,by have:=HC.out;omega,fun h=>?_,HS.out.after (drewB _ _)⟩
      obtain ⟨xb,tx,e1,e2,e3⟩:=HON.out h
      exact ⟨xb,tx,e1,e2,e3.after (drewB _ _)⟩
     case measure=>simp[intOf]
  ·have jk2:¬ (k:Int)<2:=by omega
   by_cases h1:cnt=1
   ·have z1:((cnt:Int)==1)=true:=by rw[h1];rfl
    obtain ⟨xb,tx,rfl,hxt,hF⟩:=hone h1
    clear h1
    have HF:=hide hF
    have HXT:=hide hxt
    clear hone hS hF hxt
    go_wp2
    go_loopw [14] (fun v wq=>∃ i:Nat,i≤K∧v = .int .i64 (i:Nat)∧LgS w wb fs fb gb t1 k1 t2 k2 pb key vb L wq∧FX xb tx key wq∧∀ j,j<i→SldP key tx L j) (fun v _=>K-(intOf v).toNat)
    case atStart=>exact ⟨0,Nat.zero_le _,rfl,HS.out,HF.out,fun j hj=>absurd hj (Nat.not_lt_zero _)⟩
    case round=>
     clear HS HF q0
     obtain ⟨i,hi,rfl,hS,hF,hA⟩:=hrel
     have HS:=hide hS
     have HF:=hide hF
     have HA:=hide hA
     by_cases hlt:i<K
     ·have jl:(i:Int)<(K:Int):=by omega
      obtain ⟨v',vb',l',d',b',H',hR⟩:=hF
      have HSB:=hide (sealedBy_any pb xb v' vb' vb l' d' tx b' H' key L i _ hS.py hR HXT.out (HST.out i hlt).1 HL.out)
      have HLT:=hide hlt
      clear hS hR hA hlt hi
      go_wp2_with fail
      refine HSB.out.mono ?_
      rintro e w2 ⟨r,rfl,hr,b2⟩
      have HS2:=hide (HS.out.after b2)
      have HF2:=hide (HF.out.after b2)
      clear HSB b2 HS HF
      cases r with
      | false=>
       clear hr
       go_wp2
       go_ret
       exact ⟨rfl,HS2.out.be⟩
      | true=>
       have HR:=hide (hr rfl)
       clear hr
       go_wp2
       go_roundw
       case rel=>
        refine ⟨i+1,HLT.out,by go_num,HS2.out,HF2.out,fun j hj=>?_⟩
        rcases Nat.eq_or_lt_of_le (Nat.le_of_lt_succ hj) with e | e
        ·subst e;exact HR.out
        ·exact HA.out j e
       case measure=>have:=HLT.out;simp[intOf];omega
     ·obtain rfl:i=K:=by omega
      have jl:¬ (i:Int)<(i:Int):=by omega
      obtain ⟨g1,g2⟩:=HLG.out tx (fun j hj=>by
       have:=hA j hj
       unfold SldP at this
       rw[ba_len]
       exact this)
      rw[ba_len] at g1
      obtain ⟨v',vb',l',d',b',H',hR⟩:=hF
      have s1:=hR.blk.cell (i:=1) rfl
      have HBG:=hide (fun w=>begins_any out tx w (tx.data.toList.drop out.size) (by
       conv=>rhs;lhs;rw[g1]
       rw[List.take_append_drop]))
      clear hS hR hA hlt hi HLG HST g1
      go_wp2_with fail
      refine (HBG.out _).mono ?_
      rintro e w2 ⟨rfl,rfl⟩
      clear HBG
      cases fin with
      | false=>
       clear g2
       go_wp2
       go_ret
       exact ⟨rfl,HS.out.be⟩
      | true=>
       have hot:out=tx:=ba_ext (g2 rfl)
       subst hot
       clear g2
       go_wp2
       go_ret
       exact ⟨rfl,HS.out.be⟩
   ·have zc:((cnt:Int)==1)=false:=beq_eq_false_iff_ne.2 (by omega)
    have jK:(0:Int)≤(K:Int):=by omega
    clear hone hS HLG HST
    by_cases h2:1<cnt
    ·have j2:(1:Int)<(cnt:Int):=by omega
     go_wp2
     go_ret
     exact ⟨rfl,HS.out.be⟩
    ·have j2:¬ (1:Int)<(cnt:Int):=by omega
     go_wp2
     go_ret
     exact ⟨rfl,HS.out.be⟩
set_option maxRecDepth 100000 in
set_option maxHeartbeats 1600000 in
theorem payload_any (m b H:ByteArray) (ss bs:List ByteArray) (mac:ByteArray) (fk key:List UInt8) (w:World) (ht:Tabs w) (P:Paid m.data.toList b H ss bs mac fk key) (hm:m.size=32) (hb:b.size≤34359738368):
  Calls Tryz.prog 43 #[.string m,.string b] w fun e w'=>∃ pb vb,e = .returned (.tuple #[.pointer (some ⟨pb,0,none⟩),.bool true])∧PayR pb ⟨key.toArray⟩ vb (b.extract (H.size+16) b.size).data.toList w'∧Below w.heap.size w w':=by
 have hfk:fk.length≤32:=by
  have h:=Ref.unw_len m.data.toList ss bs (fun i=>by
   have:=getD_size_le P.ok.hb P.ok.nb i
   unfold Hd.at_
   rw[ba_len]
   exact this) ss.length 0
  have e:=P.unw
  unfold Ref.unwA at e
  rw[e] at h
  exact h
 have HTO:=hide (topOf_any b w (by omega))
 have HTR:=hide (fun r h=>P.topO (r:=r) h)
 have HPA:=hide (fun w=>pParse_any H w (by have:=P.hs;omega))
 rw[P.par] at HPA
 change Hid (∀ w,Calls Tryz.prog 31 #[.string H] w fun e w'=>∃ vs vb,e = .returned (.tuple #[.agg #[vs,vb,.string mac],.int .i64 0]) ∧
   Row w' w.heap.size 9 1 vs ss.length (strV ss)∧Row w' w.heap.size 9 1 vb bs.length (strV bs)∧Below w.heap.size w w') at HPA
 have HUW:=hide (fun hb vs vb w (h0:UV w hb vs vb mac ss bs w)=>unwrapped_any m H hb vs vb mac ss bs fk w h0 P.ok hm P.hs P.unw P.mc)
 have e0:=P.e0
 have hHs:=P.hs
 have hHb:=P.hb
 obtain ⟨T,hT⟩:∃ T:Nat,H.size=T:=⟨_,rfl⟩
 obtain ⟨N,hN⟩:∃ N:Nat,b.size=N:=⟨_,rfl⟩
 have hky:=P.key
 rw[hT] at e0 hHs hHb hky HTR
 rw[hN] at hHb hb
 rw[hT,hN]
 have j1:¬ (T:Int)<45:=by omega
 have j2:¬ (N:Int)<(T:Int)+16:=by omega
 obtain ⟨T2,hT2⟩:∃ x:Nat,T+16=x:=⟨_,rfl⟩
 have tT2:(T:Int)+16=(T2:Int):=by omega
 have jT2:(T2:Int)≤(N:Int):=by omega
 have jT1:(T:Int)≤(T2:Int):=by omega
 have jT3:(T:Int)≤(N:Int):=by omega
 rw[hT2] at hky ⊢
 have hpd:(b.extract T T2).size≤16:=by rw[ByteArray.size_extract];omega
 have HKP:=hide (fun (w':World) (t:Tabs w')=>kKey_any ⟨fk.toArray⟩ (b.extract T T2) ⟨#[112,97,121,108,111,97,100]⟩ w' (by rw[two_size];omega) (by omega) (by decide) t.k t.h t.two)
 rw[show (expO (macL (b.extract T T2).data.toList (⟨fk.toArray⟩:ByteArray).data.toList) (⟨#[112,97,121,108,111,97,100]⟩:ByteArray).data.toList 1).take 32=Ref.keyL (⟨fk.toArray⟩:ByteArray).data.toList (b.extract T T2).data.toList Ref.inBody from rfl,two_toList,←hky] at HKP
 have HBX:=hide (fun w=>boxes_any (b.extract T2 N) w (by rw[ByteArray.size_extract];omega))
 rw[←ba_len] at HBX
 obtain ⟨BL,hBL⟩:∃ BL,(b.extract T2 N).data.toList=BL:=⟨_,rfl⟩
 rw[hBL] at HBX ⊢
 obtain ⟨BN,hBN⟩:∃ BN,Ref.boxN BL.length=BN:=⟨_,rfl⟩
 have HBN:=hide hBN
 rw[hBN] at HBX
 have HT:=hide ht
 have HNN:=hide hN
 generalize (⟨fk.toArray⟩:ByteArray)=FK at *
 generalize (⟨key.toArray⟩:ByteArray)=KY at *
 clear P ht hfk hm hHs hHb hT hT2 hpd hky hBN hBL
 go_enter Tryz.func43,Tryz.ntmps43
 go_wp2_with fail
 refine HTO.out.mono ?_
 rintro e w1 ⟨r,hr,rfl,rfl⟩
 obtain rfl:=HTR.out r hr
 clear HTO HTR hr
 go_wp2_with fail
 refine (HPA.out _).mono ?_
 rintro e w3 ⟨vs,vc,rfl,hr1,hr2,hb3⟩
 obtain ⟨o1,c1,rfl,_⟩:=Row.anyN hr1
 obtain ⟨o2,c2,rfl,_⟩:=Row.anyN hr2
 have hbB:Below w3.heap.size w3 (w3.alloc (.cells #[.slice o1 ss.length c1,.slice o2 bs.length c2,.string mac] 70)):=(Below.refl _ _).alloc (Nat.le_refl _) _
 have hB3:Blk (w3.alloc (.cells #[.slice o1 ss.length c1,.slice o2 bs.length c2,.string mac] 70)) w3.heap.size 70 [.slice o1 ss.length c1,.slice o2 bs.length c2,.string mac]:=Blk.new rfl rfl
 have hbC:Below w1.heap.size w1 (w3.alloc (.cells #[.slice o1 ss.length c1,.slice o2 bs.length c2,.string mac] 70)):=hb3.trans (hbB.mono hb3.size)
 obtain ⟨w4,hw4⟩:∃ x,w3.alloc (.cells #[.slice o1 ss.length c1,.slice o2 bs.length c2,.string mac] 70)=x:=⟨_,rfl⟩
 have U4:=(show UV w4 w3.heap.size (.slice o1 ss.length c1) (.slice o2 bs.length c2) mac ss bs w4 from ⟨by rw[←hw4];exact hB3,Below.refl _ _,by rw[←hw4];exact HT.out.after hbC,by rw[←hw4];exact (Row.strs hr1).after hbB,by rw[←hw4];exact (Row.strs hr2).after hbB⟩)
 have HU:=hide (HUW.out _ _ _ w4 U4)
 have HT4:=hide U4.tb
 have HB4:=hide (show Below w1.heap.size w1 w4 by rw[←hw4];exact hbC)
 clear HPA hr1 hr2 hb3 hbB hB3 hbC HUW U4 HT
 go_wp2_with fail
 refine HU.out.mono ?_
 rintro e w5 ⟨rfl,hb5⟩
 have HK5:=hide (HKP.out w5 (HT4.out.after hb5))
 have HB5:=hide (HB4.out.trans (hb5.mono HB4.out.size))
 clear HU hb5 HT4 HB4 HKP
 go_wp2_with fail
 refine HK5.out.mono ?_
 rintro e w6 ⟨rfl,hb6⟩
 have HB6:=hide (HB5.out.trans (hb6.mono HB5.out.size))
 clear HK5 hb6 HB5
 go_wp2_with fail
 refine (HBX.out _).mono ?_
 rintro e w7 ⟨vb,rfl,hr7,hb7⟩
 obtain ⟨o7,c7,rfl,_⟩:=Row.anyN hr7
 have HB7:=hide (HB6.out.trans (hb7.mono HB6.out.size))
 have HR7:=hide hr7
 clear HBX hb7 HB6 hr7
 go_wp2
 refine bodyPost_ret (results_tmp2 rfl _ _ _) rfl ?_
 have hbD:∀ o,Below w7.heap.size w7 (w7.alloc o):=fun o=>(Below.refl _ _).alloc (Nat.le_refl _) o
 refine ⟨w7.heap.size,_,rfl,⟨Blk.new rfl rfl,?_⟩,HB7.out.trans ((hbD _).mono HB7.out.size)⟩
 rw[HBN.out]
 refine Strs.after ?_ (hbD _)
 have h:=HR7.out
 rw[←Ref.boxesL_len BL BN] at h
 exact Row.strs (by rw[Ref.boxesL_len] at h ⊢;exact h)
namespace Ref
def BdS (key L:List UInt8) (r:Rd) (out:List UInt8) (e:Int):Prop:=
 (e=0∧∃ k,Tell key L r out k)∨(e=0∧r.text=[]∧r.e=13∧Told key L out 13)∨(e≠0∧r.e=e∧r.text=[]∧Told key L out e)
theorem fill_stay {r r1:Rd} (h:Rd.Fill r r1) (he:r.e≠0):r1=r:=by
 cases h using Ref.Rd.Fill.elim with
 | stay=>rfl
 | opn _ _ _ h2=>exact absurd h2 he
theorem BdS.step {key L:List UInt8} {r r1:Rd} {out:List UInt8} (h:BdS key L r out 0) (hf:Rd.Fill r r1):
  BdS key L (r1.tell 16) (out++(r1.ans 16).1) (r1.ans 16).2∧(((r1.ans 16).2=0∧(r1.ans 16).1≠[])∨((r1.ans 16).2≠0∧(r1.ans 16).1=[])):=by
 rcases h with ⟨_,k,h⟩ | ⟨_,h1,h2,h3⟩ | ⟨h,_⟩
 ·rcases h.next hf with ⟨a1,a2,a3⟩ | ⟨a1,a2,a3,a4⟩ | ⟨a1,a2,a3⟩
  ·have ha:r1.ans 16=([],r1.e):=if_pos a1
   rw[ha]
   refine ⟨.inr (.inr ⟨a2,rfl,?_,?_⟩),.inr ⟨a2,rfl⟩⟩
   ·show r1.text.drop 16=[]
    rw[a1];rfl
   ·show Told key L (out++[]) r1.e
    rw[List.append_nil];exact a3
  ·have ha:r1.ans 16=(r1.text,0):=by
    unfold Rd.ans
    rw[if_neg a1,List.take_of_length_le a2]
   rw[ha]
   refine ⟨.inr (.inl ⟨rfl,?_,a3,a4⟩),.inl ⟨rfl,a1⟩⟩
   exact List.drop_eq_nil_of_le a2
  ·have ha:r1.ans 16=(r1.text,0):=by
    unfold Rd.ans
    rw[if_neg a1,List.take_of_length_le a2]
   rw[ha]
   exact ⟨.inl ⟨rfl,k+1,a3⟩,.inl ⟨rfl,a1⟩⟩
 ·obtain rfl:=fill_stay hf (by rw[h2];decide)
  have ha:r1.ans 16=([],13):=by
   unfold Rd.ans
   rw[if_pos h1,h2]
  rw[ha]
  refine ⟨.inr (.inr ⟨(by decide),h2,?_,?_⟩),.inr ⟨(by decide),rfl⟩⟩
  ·show r1.text.drop 16=[]
   rw[h1];rfl
  ·show Told key L (out++[]) 13
   rw[List.append_nil];exact h3
 ·exact absurd rfl h
theorem BdS.last {key L:List UInt8} {r r1:Rd} {out:List UInt8} {e:Int} (h:BdS key L r out e) (he:e≠0) (hf:Rd.Fill r r1):r1.ans 1=([],e)∧Told key L out e:=by
 rcases h with ⟨h0,_⟩ | ⟨h0,_⟩ | ⟨_,h1,h2,h3⟩
 ·exact absurd h0 he
 ·exact absurd h0 he
 ·obtain rfl:=fill_stay hf (by rw[h1];exact he)
  exact ⟨by unfold Rd.ans;rw[if_pos h2,h1],h3⟩
theorem BdS.len {key L:List UInt8} {r:Rd} {out:List UInt8} {e:Int} (h:BdS key L r out e):out.length≤L.length:=by
 have stl:∀ k,out.length≤16*k→(∀ i,i<k→Stands key L i (chunkL out i))→out.length≤L.length:=by
  intro k hk hs
  rcases Nat.eq_zero_or_pos k with e | e
  ·omega
  ·obtain ⟨s1,s2⟩:=hs (k-1) (by omega)
   have h1:=boxN_nums L.length
   have h2:=congrArg List.length s2
   rw[Box.sealed_len] at h2
   unfold chunkL boxI at h2
   rw[List.length_take,List.length_drop,List.length_take,List.length_drop] at h2
   omega
 have told:∀ e,Told key L out e→out.length≤L.length:=by
  intro e h
  by_cases he:e=13
  ·obtain ⟨N,h1,h2,h3,h4,h5⟩:=h.fin he
   exact stl (N+1) (by omega) (fun i hi=>h5 i (by omega))
  ·obtain ⟨k,h1,h2⟩:=h.bad he
   exact stl k (by omega) h2
 rcases h with ⟨_,k,h⟩ | ⟨_,_,_,h⟩ | ⟨_,_,_,h⟩
 ·exact stl k (by rw[h.len];omega) h.st
 ·exact told _ h
 ·exact told _ h
end Ref
def BndR (w:World) (rb bs g:Nat) (key L:List UInt8) (N:Nat) (ve vo:Value) (wr:World):Prop:=
 ∃ (r:Ref.Rd) (out:List UInt8) (e:Int),ve = .int .i64 e∧vo = .string ⟨out.toArray⟩∧Ref.BdS key L r out e∧r.n+(r.x.s.size-r.x.at_)≤N∧RdRep rb bs r wr∧SrcRep bs g r.x wr∧Below w.heap.size w wr
def isZ (v:Value):Nat:=if intOf v=0 then 1 else 0
def szOf:Value→Nat
 | .string s=>s.size
 | _=>0
set_option maxRecDepth 100000 in
set_option maxHeartbeats 1600000 in
theorem bend_any (wb fs fb gb:Nat) (t1 k1 t2 k2 m b:ByteArray) (w:World) (ht:Tabs w) (hW:WldR wb fs fb gb t1 k1 t2 k2 w) (hx1:t1.size≤268435456) (hx2:t2.size≤268435456) (hm:m.size=32) (hb:b.size≤34359738368):
  Calls Tryz.prog 16 #[.pointer (some ⟨wb,0,none⟩),.string m,.string b] w fun e w'=>e = .returned (.bool true)∧Below w.heap.size w w':=by
 have h2:=ht.two
 have HT:=hide ht
 have HW:=hide hW
 have HX:=hide (And.intro hx1 (And.intro hx2 (And.intro hm hb)))
 have HSO:=hide (sourceOf_nil b w (by omega))
 have HNR:=hide (fun bs (w1:World) t s hb=>newReader_any m bs w.heap.size (src0 b) w1 t s hb)
 clear ht hW hx1 hx2 hm
 go_enter Tryz.func16,Tryz.ntmps16
 go_wp2_with fail
 refine HSO.out.mono ?_
 rintro e w1 ⟨bs,rfl,hbs,hS1,hb1⟩
 have hbl1:bs<w1.heap.size:=hS1.hb.lt
 have HN1:=hide (HNR.out bs w1 (HT.out.after hb1) hS1 (by omega))
 have B1:=hide hb1
 clear HSO HNR hS1 hb1
 go_wp2_with fail
 refine HN1.out.mono ?_
 rintro e w2 ⟨y,k,key,pv,hN,rfl,hk1,hk2,hS2,hG2⟩
 have B2:=hide (B1.out.trans (RowKit.Below.of_grown hG2 (Nat.le_of_lt hbs) B1.out.size))
 have hg1:w1.heap.size≤w2.heap.size:=hG2.size
 by_cases hk:k=0
 ·subst hk
  obtain ⟨rb,hrb,rfl,hR⟩:=hk2 rfl
  obtain ⟨H,ss,bods,mac,fk,hPd,hya,hys,hyp⟩:=new_paid (b:=b) rfl rfl hN
  have hkl:key.length=32:=by rw[hPd.key,Ref.keyL_len]
  have hPb:=hPd.hb
  have HPD:=hide hPd
  have hL:(b.extract (H.size+16) b.size).data.toList=y.rest:=by
   unfold Src.rest
   rw[hys,hya,sub_list,List.take_of_length_le (by rw[List.length_drop,ba_len];omega)]
  have hLl:(b.extract (H.size+16) b.size).data.toList.length=b.size-(H.size+16):=by rw[ba_len,ByteArray.size_extract];omega
  have hpl:=HX.out
  have HPY:=hide (fun (w':World) t=>payload_any m b H ss bods mac fk key w' t HPD.out hpl.2.2.1 hpl.2.2.2)
  have HBD0:Hid (Ref.BdS key (b.extract (H.size+16) b.size).data.toList ⟨y,key,0,[],[],0⟩ [] 0):=hide (.inl ⟨rfl,0,⟨rfl,rfl,rfl,rfl,by show []++y.rest=_;rw[List.nil_append,←hL];rfl,Nat.zero_le _,by show y.at_≤y.s.size;rw[hys];omega,by show Src.Calm y.plan;rw[hyp];exact src0_calm b,rfl,fun i hi=>absurd hi (Nat.not_lt_zero _)⟩⟩)
  have hbs0:y.s.size-y.at_≤b.size:=by rw[hys];omega
  generalize (b.extract (H.size+16) b.size).data.toList=L at *
  have HKL:=hide hkl
  have hLb:L.length≤34359738368:=by omega
  have HLB:=hide hLb
  have HR0:=hide (show BndR w rb bs w.heap.size key L b.size (.int .i64 0) (.string ⟨#[]⟩) w2 from ⟨⟨y,key,0,[],[],0⟩,[],0,rfl,rfl,HBD0.out,by show 0+(y.s.size-y.at_)≤_;omega,hR,hS2,B2.out⟩)
  have hs1:=B1.out.size
  have hs2:=B2.out.size
  have hrbl:=hR.hb.lt
  have hne:rb≠bs∧rb≠w.heap.size∧w.heap.size≤rb∧w.heap.size≤bs:=by omega
  clear hk1 hk2 hR hS2 hG2 hN hPd hPb HPD hL hLl hya hys hyp HN1 HBD0 hpl hkl hLb B1 B2 hbs0 hrbl hs1 hs2 hrb hg1 hbl1 hbs
  go_wp2
  go_loopw [9,10] (fun ve vo wr=>BndR w rb bs w.heap.size key L b.size ve vo wr) (fun ve vo _=>2*(L.length-szOf vo)+isZ ve)
  case atStart=>exact HR0.out
  case round=>
   clear HR0
   obtain ⟨r,out,e,rfl,rfl,hB,hnb,hRr,hSr,hbe⟩:=hrel
   have HB:=hide hB
   have HRR:=hide hRr
   have HSR:=hide hSr
   have HBE:=hide hbe
   have hat:=hSr.at_
   have hol:=hB.len
   have hoz:(⟨out.toArray⟩:ByteArray).size=out.length:=two_size _
   have HOL:=hide (And.intro hol hoz)
   by_cases he:e=0
   ·subst he
    have HRD:Hid (Calls Tryz.prog 30 #[.pointer (some ⟨rb,0,none⟩),.int .i64 16] wr (ReadP rb bs w.heap.size r 16 wr)):=hide (read_any rb bs w.heap.size r 16 wr hRr hSr hne.1 hne.2.1 (by omega) (by decide) (by decide))
    have HNB:=hide hnb
    have HOU:=hide (show (⟨out.toArray⟩:ByteArray).data.toList=out from rfl)
    clear hB hRr hSr hbe hnb hoz hol
    generalize (⟨out.toArray⟩:ByteArray)=ob at *
    go_wp2_with fail
    refine HRD.out.mono ?_
    rintro e w6 ⟨r1,hfi,rfl,hR6,hS6,hC6⟩
    have hms:=hfi.meas (fun h=>(HRR.out.ok h).2) hat
    obtain ⟨st1,st2⟩:=HB.out.step hfi
    have hnb:=HNB.out
    obtain ⟨m1,m2,m3,m4,m5,m6,m7,m8⟩:=hms
    have HNB6:=hide (show (r1.tell 16).n+((r1.tell 16).x.s.size-(r1.tell 16).x.at_)≤b.size by show r1.n+(r1.x.s.size-r1.x.at_)≤_;omega)
    have B6:=hide (Chg.belowN hC6 HBE.out (Nat.le_refl _) (fun q hq=>by omega))
    have HR6:=hide hR6
    have HS6:=hide (show SrcRep bs w.heap.size (r1.tell 16).x w6 from hS6)
    have HST:=hide st1
    generalize r1.tell 16=r7 at *
    generalize r1.ans 16=an at *
    obtain ⟨at_,ax⟩:=an
    simp only at st1 st2 HST
    have hal:(⟨at_.toArray⟩:ByteArray).data.toList=at_:=rfl
    have haz:(⟨at_.toArray⟩:ByteArray).size=at_.length:=two_size _
    have hs7:=st1.len
    rw[List.length_append] at hs7
    have HAP:=hide (show ob++⟨at_.toArray⟩=⟨(out++at_).toArray⟩ from ba_ext (by rw[ba_list,HOU.out]))
    have HS7:=hide (show out.length+at_.length≤L.length∧ob.size=out.length from ⟨hs7,HOL.out.2⟩)
    have hob:ob.size≤34359738368:=by have:=HOL.out;have:=HLB.out;omega
    have hab:(⟨at_.toArray⟩:ByteArray).size≤34359738368:=by have:=HLB.out;omega
    clear HRD hfi hR6 hS6 hC6 m1 m2 m3 m4 m5 m6 m7 m8 st1 hs7 HRR HSR HBE HB HNB hnb hat
    rcases st2 with ⟨rfl,h2⟩ | ⟨h1,rfl⟩
    ·have zt:(⟨at_.toArray⟩:ByteArray).toList.isEmpty=false:=str_isne h2
     have HAZ:=hide (show 0<at_.length from List.length_pos_iff.2 h2)
     clear h2 hal
     have HAZ2:=hide haz
     generalize (⟨at_.toArray⟩:ByteArray)=ab at *
     go_wp2
     go_roundw
     case rel=>exact ⟨r7,out++at_,0,rfl,by rw[HAP.out],HST.out,HNB6.out,HR6.out,HS6.out,B6.out⟩
     case measure=>
      have h1:=HS7.out
      have h2:=HAZ.out
      have h3:=HAZ2.out
      have h4:(ob++ab).size=ob.size+ab.size:=cat_size _ _
      simp only[szOf,isZ,intOf] at *
      omega
    ·have z1:(ax==0)=false:=beq_eq_false_iff_ne.2 h1
     go_wp2
     go_roundw
     case rel=>exact ⟨r7,out,ax,rfl,by rw[HAP.out,List.append_nil],by have:=HST.out;rw[List.append_nil] at this;exact this,HNB6.out,HR6.out,HS6.out,B6.out⟩
     case measure=>
      have h4:(ob++⟨#[]⟩).size=ob.size:=by rw[cat_size];rfl
      have h5:isZ (.int .i64 ax)=0:=if_neg h1
      have h6:isZ (.int .i64 0)=1:=if_pos rfl
      show 2*(L.length-(ob++⟨#[]⟩).size)+isZ (.int .i64 ax)<2*(L.length-ob.size)+isZ (.int .i64 0)
      omega
   ·have ze:(e==0)=false:=beq_eq_false_iff_ne.2 he
    have HRD:Hid (Calls Tryz.prog 30 #[.pointer (some ⟨rb,0,none⟩),.int .i64 1] wr (ReadP rb bs w.heap.size r 1 wr)):=hide (read_any rb bs w.heap.size r 1 wr hRr hSr hne.1 hne.2.1 (by omega) (by decide) (by decide))
    have HOU:=hide (show (⟨out.toArray⟩:ByteArray).data.toList=out from rfl)
    have HE:=hide he
    clear hB hRr hSr hbe hnb hoz hol he
    generalize (⟨out.toArray⟩:ByteArray)=ob at *
    go_wp2_with fail
    refine HRD.out.mono ?_
    rintro e1 w6 ⟨r1,hfi,rfl,hR6,hS6,hC6⟩
    obtain ⟨ha,hTd⟩:=HB.out.last HE.out hfi
    rw[ha]
    have B6:=hide (Chg.belowN hC6 HBE.out (Nat.le_refl _) (fun q hq=>by omega))
    obtain ⟨K,hK⟩:=hTd.shows
    have HPY6:=hide (HPY.out w6 (HT.out.after B6.out))
    have HK:=hide hK
    clear HRD hfi hR6 hS6 hC6 HRR HSR HBE HB ha hTd hK hat
    go_wp2_with fail
    refine HPY6.out.mono ?_
    rintro e1 w7 ⟨pb,vb,rfl,hP7,hb7⟩
    have B7:=hide (B6.out.trans (hb7.mono B6.out.size))
    have hob:ob.size≤34359738368:=by have:=HOL.out;have:=HLB.out;omega
    have hsh:=HK.out
    rw[←HOU.out] at hsh
    have HSH:=hide (shown_any pb ⟨key.toArray⟩ ob vb L (decide (e=13)) K w7 hP7 (by rw[two_size,HKL.out]) (by omega) (by have:=HLB.out;omega) hsh)
    have HLG:=hide (fun (w':World) h1 h2=>logged_any wb fs fb gb t1 k1 t2 k2 pb ⟨key.toArray⟩ ob vb L (decide (e=13)) K w' h1 HX.out.1 HX.out.2.1 h2 (by rw[two_size,HKL.out]) (by omega) (by have:=HLB.out;omega) hsh)
    have HP7:=hide hP7
    have z13:(e==13)=decide (e=13):=rfl
    have jK:¬ (K:Int)<0:=by omega
    generalize decide (e=13)=fin at *
    clear HPY6 hb7 hP7 hsh B6 HK
    go_wp2_with fail
    refine HSH.out.mono ?_
    rintro e1 w8 ⟨rfl,hb8⟩
    have B8:=hide (B7.out.trans (hb8.mono B7.out.size))
    have HL8:=hide (HLG.out w8 (HW.out.after B8.out) (HP7.out.after hb8))
    clear HSH hb8 B7 HLG HP7
    go_wp2_with fail
    refine HL8.out.mono ?_
    rintro e1 w9 ⟨rfl,hb9⟩
    have B9:=hide (B8.out.trans (hb9.mono B8.out.size))
    clear HL8 hb9 B8
    go_wp2
    go_ret
    exact ⟨rfl,B9.out⟩
 ·obtain rfl:=hk1 hk
  have z1:(k==0)=false:=beq_eq_false_iff_ne.2 hk
  clear hk1 hk2 hS2 hG2 hN HN1
  go_wp2
  go_ret
  exact ⟨rfl,B2.out⟩
theorem strs_src {w:World} {v:Value} {l:List ByteArray} (h:Strs w v l):∃ ao c,v = .slice ao l.length c∧(0<l.length→∃ ad:Addr,ao=some ad∧∀ j u,(strV l)[j]? = some u→w.cell? (ad.add j)=some u):=by
 rcases h with ⟨rfl,ao,c,rfl⟩ | ⟨g,o,c,rfl,h⟩
 ·exact ⟨ao,c,rfl,fun h=>by simp at h⟩
 ·refine ⟨_,c,rfl,fun _=>⟨_,rfl,fun j u hj=>?_⟩⟩
  rw[Addr.add_mid]
  unfold strV at hj
  rw[List.getElem?_map] at hj
  obtain ⟨x,hx,rfl⟩:=Option.map_eq_some_iff.1 hj
  exact h j x hx
theorem strV_len (l:List ByteArray):(strV l).length=l.length:=by simp[strV]
theorem strV_set (l:List ByteArray) (i:Nat) (x:ByteArray):(strV l).set i (.string x)=strV (l.set i x):=by
 unfold strV
 rw[List.map_set]
theorem strs_over (l:List ByteArray) (n:Nat) (hn:l.length=n):splice (List.replicate n (Value.string ByteArray.empty)) 0 (strV l)=strV l:=by
 unfold splice
 rw[List.take_zero,List.nil_append,List.drop_eq_nil_of_le (by simp[strV_len,hn]),List.append_nil]
theorem Row.ofStrs {w:World} {g:Nat} {l:List ByteArray} {base n:Nat} (h:Blk w g 9 (strV l)) (hb:base≤g) (hn:l.length=n) (hl:n≤1099511627776):Row w base 9 1 (.slice (some ⟨g,0,none⟩) n n) n (strV l):=by
 refine ⟨by rw[strV_len,hn];omega,.inr ⟨g,n,strV l,rfl,hb,h.marked,Nat.le_refl _,by unfold maxLen;omega,by rw[strV_len,hn];omega,?_⟩⟩
 exact List.take_of_length_le (by rw[strV_len,hn];omega)
def Few (l:List ByteArray):Prop:=∀ x ∈ l,x.size≤32
theorem Few.set {l:List ByteArray} (h:Few l) (i:Nat) {x:ByteArray} (hx:x.size≤32):Few (l.set i x):=by
 intro y hy
 rcases List.mem_or_eq_of_mem_set hy with h1 | h1
 ·exact h y h1
 ·rw[h1];exact hx
theorem Few.snoc {l:List ByteArray} (h:Few l) {x:ByteArray} (hx:x.size≤32):Few (l++[x]):=by
 intro y hy
 rcases List.mem_append.1 hy with h1 | h1
 ·exact h y h1
 ·rw[List.mem_singleton.1 h1];exact hx
theorem Few.at {l:List ByteArray} (h:Few l) (i:Nat):(l.getD i ⟨#[]⟩).size≤32:=by
 rw[List.getD_eq_getElem?_getD]
 rcases hq:l[i]? with _ | x
 ·exact Nat.zero_le _
 ·exact h x (List.mem_of_getElem? hq)
theorem few_boxes (L:List UInt8) (n:Nat):Few (Ref.boxesL L n):=by
 intro x hx
 unfold Ref.boxesL at hx
 obtain ⟨i,_,rfl⟩:=List.mem_map.1 hx
 rw[two_size]
 exact Ref.boxI_len L i
structure HoS (w:World) (fb:Nat) (fc:List Value) (L:List ByteArray) (wi:World):Prop where
 file:Blk wi fb 27 fc
 row:Blk wi w.heap.size 9 (strV L)
 be:Below w.heap.size w wi
theorem HoS.after {w:World} {fb:Nat} {fc:List Value} {L:List ByteArray} {wi wj:World} (h:HoS w fb fc L wi) (hb:Below wi.heap.size wi wj):HoS w fb fc L wj:=
 ⟨h.file.below hb h.file.lt,h.row.below hb h.row.lt,h.be.trans (hb.mono h.be.size)⟩
theorem HoS.set {w:World} {fb:Nat} {fc:List Value} {L:List ByteArray} {wi:World} (h:HoS w fb fc L wi) (hf:fb<w.heap.size) (i:Nat) (x:ByteArray):HoS w fb fc (L.set i x) (wi.setCell ⟨w.heap.size,i,none⟩ (.string x)):=
 ⟨h.file.setCell_other _ _ (Nat.ne_of_lt hf),by rw[←strV_set];exact h.row.setCell_same i _,h.be.setCell (Nat.le_refl _) _⟩
theorem HoS.at {w:World} {fb:Nat} {fc:List Value} {L:List ByteArray} {wi:World} (h:HoS w fb fc L wi) (i:Nat) (hi:i<L.length):∃ x,wi.cell? ⟨w.heap.size,i,none⟩=some (.string x):=by
 refine ⟨L[i],h.row.cell (i:=i) ?_⟩
 unfold strV
 rw[List.getElem?_map,List.getElem?_eq_getElem hi]
 rfl
set_option maxRecDepth 100000 in
set_option maxHeartbeats 1600000 in
theorem hollow_any (fb:Nat) (v vb:Value) (l:List ByteArray) (d text b H KY:ByteArray) (w:World) (R:FileR fb v vb l d text b H KY w) (hk:KY.size=32) (hx:text.size≤268435456):
  Calls Tryz.prog 42 #[.pointer (some ⟨fb,0,none⟩)] w fun e w'=>∃ u L,e = .returned u∧Row w' w.heap.size 9 1 u L.length (strV L)∧Few L∧L.length≤268435458∧Below w.heap.size w w':=by
 obtain ⟨bl,hbl⟩:∃ bl,Ref.boxesL (Ref.encF KY.data.toList text.data.toList) (Ref.full text.size+1)=bl:=⟨_,rfl⟩
 have hbx:=R.bx
 rw[hbl] at hbx
 have hfw:Few bl:=by rw[←hbl];exact few_boxes _ _
 have hbn:bl.length=Ref.full text.size+1:=by rw[←hbl,Ref.boxesL_len]
 have hfn:=Ref.full_nums text.size
 obtain ⟨ao,cp,rfl,hsr⟩:=strs_src hbx
 have c1:=R.blk.cell (i:=1) rfl
 have c6:=R.blk.cell (i:=6) rfl
 have hB:=R.blk
 have HB:=hide hB
 have hfl:=hB.lt
 obtain ⟨n,hn⟩:∃ n:Nat,bl.length=n:=⟨_,rfl⟩
 rw[hn] at c6 hbn hsr hbx
 have hnb:n≤268435457:=by omega
 have hmk:=fun w=>make_strs n (by omega) w
 have HSP:=hide (strs_over bl n hn)
 have HN:=hide hn
 have HFW:=hide hfw
 have HSR:=hide hsr
 have HLN:=hide (show (strV bl).length=n by rw[strV_len,hn])
 obtain ⟨n1,hn1⟩:∃ n1:Nat,n1+1=n:=⟨n-1,by omega⟩
 have tn:(n:Int)-1=(n1:Int):=by omega
 obtain ⟨M,hM⟩:∃ M:Nat,n*16=M:=⟨_,rfl⟩
 have tM:(n:Int)*16=(M:Int):=by omega
 have HKN:=hide (fun i lb w (hi:i≤1125899906842624)=>knonce_any i lb w hi)
 have HCH:=hide (fun w=>chunk_any text n1 w (by omega) (by omega))
 have hcl:(Ref.chunkL text.data.toList n1).length≤16:=by unfold Ref.chunkL;rw[List.length_take];omega
 have HSE:=hide (fun i lb (t:List UInt8) w (h:t.length≤16)=>sealAt KY ⟨(Ref.nonce i lb).toArray⟩ ⟨t.toArray⟩ w hk (by rw[two_size,Ref.nonce_len]) (by rw[two_size];omega))
 obtain ⟨X,hX⟩:∃ X:Nat,text.size=X:=⟨_,rfl⟩
 have hMb:M≤4294967312:=by omega
 have hXb:X≤268435456:=by omega
 have HCL:=hide hcl
 have HNB:=hide hnb
 have HN1:=hide hn1
 clear R hbx hfw hB hbl hbn hfn hsr hn1 hM hcl hk
 by_cases hXM:X=M
 ·have zM:((X:Int)==(M:Int))=true:=by rw[hXM];exact beq_self_eq_true _
  have hXM2:X=M:=hXM
  have HK1:=hide (HKN.out n1 false)
  have HK2:=hide (HKN.out n true)
  have HS1:=hide (fun w=>HSE.out n1 false (Ref.chunkL text.data.toList n1) w HCL.out)
  have HS2:=hide (fun w=>HSE.out n true [] w (by decide))
  have hz1:(⟨(Box.sealed KY.data.toList (⟨(Ref.nonce n1 false).toArray⟩:ByteArray).data.toList [] (⟨(Ref.chunkL text.data.toList n1).toArray⟩:ByteArray).data.toList).toArray⟩:ByteArray).size≤32:=by rw[two_size,Box.sealed_len,two_toList];have:=HCL.out;omega
  have hz2:(⟨(Box.sealed KY.data.toList (⟨(Ref.nonce n true).toArray⟩:ByteArray).data.toList [] (⟨([]:List UInt8).toArray⟩:ByteArray).data.toList).toArray⟩:ByteArray).size≤32:=by rw[two_size,Box.sealed_len];decide
  generalize (⟨(Box.sealed KY.data.toList (⟨(Ref.nonce n1 false).toArray⟩:ByteArray).data.toList [] (⟨(Ref.chunkL text.data.toList n1).toArray⟩:ByteArray).data.toList).toArray⟩:ByteArray)=sb1 at *
  generalize (⟨(Box.sealed KY.data.toList (⟨(Ref.nonce n true).toArray⟩:ByteArray).data.toList [] (⟨([]:List UInt8).toArray⟩:ByteArray).data.toList).toArray⟩:ByteArray)=sb2 at *
  generalize (⟨(Ref.nonce n1 false).toArray⟩:ByteArray)=nn1 at *
  generalize (⟨(Ref.nonce n true).toArray⟩:ByteArray)=nn2 at *
  generalize (⟨(Ref.chunkL text.data.toList n1).toArray⟩:ByteArray)=cc at *
  have HZ:=hide (And.intro hz1 hz2)
  have hn1b:n1≤268435457:=by have:=HN1.out;omega
  have hn1n:(n1:Int)<(n:Int):=by have:=HN1.out;omega
  clear HSE HKN hz1 hz2 HCL
  subst hXM2
  go_enter Tryz.func42,Tryz.ntmps42
  go_wp2_with (refine wpList_copy_splice rfl (.tmp 16) (.tmp 20) 25 25 rfl 9 Tryz.underlying25 infoStr1 _ _ _ _ _ _ rfl rfl w.heap.size 0 (List.replicate n (Value.string ByteArray.empty)) 9 ?_ (strV bl) ?_ ?_ ?_ (strV_one _) w.heap.size w ?_ (Nat.le_refl _) ?_;exact Blk.new rfl rfl;(rw[HLN.out];exact (Nat.min_self n).symm);exact src_of HSR.out HLN.out;(rw[HLN.out];simp);exact (Below.refl _ _).alloc (Nat.le_refl _) _;intro w2 HB2 hbe2;have e1:=(hbe2.cell hfl).trans c1)
  have hB2:=HB2.out
  rw[HSP.out] at hB2
  have S2:=hide (show HoS w fb _ bl w2 from ⟨HB.out.below hbe2 hfl,hB2,hbe2⟩)
  clear hB2 HB2 hbe2 e1 c1 c6 HB HSR HSP HLN hmk
  refine (HK1.out _ (by omega)).mono ?_
  rintro e w3 ⟨rfl,b3⟩
  have S3:=hide (S2.out.after b3)
  have d1:=S3.out.file.cell (i:=1) rfl
  clear S2 b3 HK1
  go_wp2_with fail
  refine (HCH.out _).mono ?_
  rintro e w4 ⟨rfl,rfl⟩
  have d5:=S3.out.file.cell (i:=5) rfl
  clear HCH d1
  go_wp2_with fail
  refine (HS1.out _).mono ?_
  rintro e w5 ⟨rfl,b5⟩
  have S5:=hide (S3.out.after b5)
  obtain ⟨x5,hx5⟩:=S5.out.at n1 (by rw[HN.out];have:=HN1.out;omega)
  have hf5:=S5.out.row.frozen n1
  have S6:=hide (S5.out.set hfl n1 sb1)
  clear S3 b5 HS1 d5 S5
  go_wp2_with fail
  obtain ⟨w6,hw6⟩:∃ x,w5.setCell ⟨w.heap.size,n1,none⟩ (.string sb1)=x:=⟨_,rfl⟩
  rw[hw6] at S6 ⊢
  clear hw6 hx5 hf5
  refine (HK2.out _ (by omega)).mono ?_
  rintro e w7 ⟨rfl,b7⟩
  have S7:=hide (S6.out.after b7)
  have d5:=S7.out.file.cell (i:=5) rfl
  clear S6 b7 HK2
  go_wp2_with fail
  refine (HS2.out _).mono ?_
  rintro e w8 ⟨rfl,b8⟩
  have S8:=hide (S7.out.after b8)
  clear S7 b8 HS2 d5
  have hR8:Row w8 w.heap.size 9 1 (.slice (some ⟨w.heap.size,0,none⟩) n n) n (strV (bl.set n1 sb1)):=Row.ofStrs S8.out.row (Nat.le_refl _) (by rw[List.length_set,HN.out]) (by have:=HNB.out;omega)
  have HR8:=hide hR8
  have hs8:=S8.out.be.size
  have hnb2:=HNB.out
  clear hR8
  go_wp2_with (at_builtin;refine wpList_append_strB rfl (.tmp 66) (.tmp 68) rfl w.heap.size _ n _ rfl (HR8.out.alloc _) w8.heap.size _ rfl (World.cell?_alloc_at _ _ _ _ rfl) ?_ ?_ ?_;omega;(simp;omega);intro v9 w9 hr9 hg9 hat9)
  go_ret
  have hlen:(bl.set n1 sb1++[sb2]).length=n+1:=by rw[List.length_append,List.length_set,HN.out];rfl
  refine ⟨_,bl.set n1 sb1++[sb2],rfl,by rw[hlen];exact hr9,(HFW.out.set n1 HZ.out.1).snoc HZ.out.2,by rw[hlen];omega,Below.grown (S8.out.be.alloc hs8 _) hg9 (by simp;omega) (fun k hk=>(HR8.out.lt k hk).1)⟩
 ·have zM:((X:Int)==(M:Int))=false:=beq_eq_false_iff_ne.2 (by omega)
  clear HKN HCH HSE
  go_enter Tryz.func42,Tryz.ntmps42
  go_wp2_with (refine wpList_copy_splice rfl (.tmp 16) (.tmp 20) 25 25 rfl 9 Tryz.underlying25 infoStr1 _ _ _ _ _ _ rfl rfl w.heap.size 0 (List.replicate n (Value.string ByteArray.empty)) 9 ?_ (strV bl) ?_ ?_ ?_ (strV_one _) w.heap.size w ?_ (Nat.le_refl _) ?_;exact Blk.new rfl rfl;(rw[HLN.out];exact (Nat.min_self n).symm);exact src_of HSR.out HLN.out;(rw[HLN.out];simp);exact (Below.refl _ _).alloc (Nat.le_refl _) _;intro w2 HB2 hbe2;have e1:=(hbe2.cell hfl).trans c1)
  go_ret
  have hB:=HB2.out
  rw[HSP.out] at hB
  exact ⟨_,bl,rfl,by rw[HN.out];exact Row.ofStrs hB (Nat.le_refl _) HN.out (by have:=HNB.out;omega),HFW.out,by have:=HNB.out;rw[HN.out];omega,hbe2⟩
structure FB (fb:Nat) (b:ByteArray) (T:Nat) (bl:List ByteArray) (fc:List Value) (w:World):Prop where
 file:Blk w fb 27 fc
 c3:fc[3]? = some (.string b)
 c4:fc[4]? = some (.int .i64 (T:Nat))
 t1:45≤T
 t2:T≤284
 tb:T+16≤b.size
 bb:b.size≤1000000000
 few:Few bl
 n1:1≤bl.length
 n2:bl.length≤268435457
 bx:∃ vb,fc[6]? = some vb∧Strs w vb bl
theorem FB.after {fb:Nat} {b:ByteArray} {T:Nat} {bl:List ByteArray} {fc:List Value} {w w':World} (h:FB fb b T bl fc w) (hb:Below w.heap.size w w'):FB fb b T bl fc w':=
 ⟨h.file.below hb h.file.lt,h.c3,h.c4,h.t1,h.t2,h.tb,h.bb,h.few,h.n1,h.n2,by obtain ⟨vb,h1,h2⟩:=h.bx;exact ⟨vb,h1,h2.after hb⟩⟩
def Fw (L:List ByteArray) (m:Nat):Prop:=∀ k,k<m→(L.getD k ⟨#[]⟩).size≤32∨(k+1=m∧(L.getD k ⟨#[]⟩).size≤268435456)
theorem Few.fw {L:List ByteArray} (h:Few L) (m:Nat):Fw L m:=fun k _=>.inl (h.at k)
theorem Few.take {L:List ByteArray} (h:Few L) (i:Nat):Few (L.take i):=fun x hx=>h x (List.mem_of_mem_take hx)
theorem Few.drop {L:List ByteArray} (h:Few L) (i:Nat):Few (L.drop i):=fun x hx=>h x (List.mem_of_mem_drop hx)
theorem Few.app {L M:List ByteArray} (h:Few L) (h2:Few M):Few (L++M):=fun x hx=>by
 rcases List.mem_append.1 hx with h1 | h1
 ·exact h x h1
 ·exact h2 x h1
theorem fw_snoc {L:List ByteArray} (h:Few L) {x:ByteArray} (hx:x.size≤268435456):Fw (L++[x]) (L.length+1):=by
 intro k hk
 rcases Nat.lt_or_ge k L.length with h1 | h1
 ·left
  rw[List.getD_eq_getElem?_getD,List.getElem?_append_left h1,←List.getD_eq_getElem?_getD]
  exact h.at k
 ·right
  have e:k=L.length:=by omega
  refine ⟨by omega,?_⟩
  rw[e,List.getD_eq_getElem?_getD,List.getElem?_append_right (Nat.le_refl _),Nat.sub_self]
  exact hx
theorem Row.ofTake {w:World} {g:Nat} {l:List ByteArray} {base n i:Nat} (h:Blk w g 9 (strV l)) (hb:base≤g) (hn:l.length=n) (hi:i≤n) (hl:n≤1099511627776):Row w base 9 1 (.slice (some ⟨g,0,none⟩) i n) i (strV (l.take i)):=by
 have e:strV (l.take i)=(strV l).take i:=by unfold strV;rw[List.map_take]
 refine ⟨by rw[strV_len,List.length_take,hn];omega,.inr ⟨g,n,strV l,rfl,hb,h.marked,hi,by unfold maxLen;omega,by rw[strV_len,hn];omega,?_⟩⟩
 rw[e,Nat.mul_one]
theorem step_append_strs {ops:Array Oper} {o:Oper} {a:Act} {w:World} {K:Act→World→Prop} {Q:Exit→Act→World→Prop} {E:Prop} (hgd:o.guard=none) (sl x:Operand)
  (ho:o.op = .call { callee:=.builtin .append,args:=#[sl,x],argTypes:=#[25,25] })
  (base:Nat) (v:Value) (n:Nat) (xs:List ByteArray) (hs:a.eval sl=v) (hown:Row w base 9 1 v n (strV xs))
  (ad:Addr) (m c:Nat) (news:List ByteArray) (hx:a.eval x = .slice (some ad) m c) (hl:news.length=m) (hn1:∀ j y,news[j]? = some y→w.cell? (ad.add j)=some (.string y)) (hn:n+m≤1099511627) (hbase:base≤w.heap.size)
  (h:∀ v' w',Row w' base 9 1 v' (n+m) (strV (xs++news))→w.grownBy w' v.ownBlock→(v'.ownBlock=v.ownBlock∨∃ g,v'.ownBlock=some g∧w.heap.size≤g)→K (a.put o.dst v') w'):
  if Region.wanted o (yielded ops a.tmps)=true then Oper.wp Tryz.prog o a w K Q else E:=by
 rw[if_pos (by simp[Region.wanted,hgd])]
 obtain ⟨i0,hi,hz0,hz1,hz2⟩:=info_parts infoStr
 refine wp_append_row sl x 25 ho i0 (.string ByteArray.empty) 16 Tryz.underlying25 hi hz0 hz1 hz2 rfl (by decide) v n (strV xs) hs hown ad m c (strV news) hx (by rw[strV_len,hl,Nat.mul_one]) ?_ (strV_one _) ?_ ?_ hbase ?_
 ·intro j u hj
  unfold strV at hj
  rw[List.getElem?_map] at hj
  obtain ⟨y,hy,rfl⟩:=Option.map_eq_some_iff.1 hj
  exact hn1 j y hy
 ·unfold maxLen;omega
 ·omega
 ·intro v' w' hr
  have e:strV xs++strV news=strV (xs++news):=by unfold strV;rw[List.map_append]
  rw[e] at hr
  exact h v' w' hr
def BeL (wL:World) (M:Nat) (vt vk:Value) (wr:World):Prop:=wr=wL∧∃ (t:ByteArray) (k:Nat),vt = .string t∧vk = .int .i64 (k:Nat)∧k≤M∧t.size≤400+32*k+(if k=M then 268435456 else 0)
set_option maxRecDepth 100000 in
set_option maxHeartbeats 40000000 in
theorem bended_any (fb gb:Nat) (b b':ByteArray) (T T':Nat) (bl bl':List ByteArray) (fc gc:List Value) (how p:Int) (s:ByteArray) (w:World) (F:FB fb b T bl fc w) (G:FB gb b' T' bl' gc w) (p1 : -9223372036854775808≤p) (p2:p≤9223372036854775807) (hs:s.size≤268435456)
  (hh:how=0∨how=1∨how=2∨how=3∨how=4∨how=5∨how=6∨how=7∨how=8∨how=9∨how=10∨how=11∨how=12)
  (HHO:∀ w',Below w.heap.size w w'→Calls Tryz.prog 42 #[.pointer (some ⟨fb,0,none⟩)] w' fun e w2=>∃ u L,e = .returned u∧Row w2 w'.heap.size 9 1 u L.length (strV L)∧Few L∧L.length≤268435458∧Below w'.heap.size w' w2):
  Calls Tryz.prog 14 #[.pointer (some ⟨fb,0,none⟩),.pointer (some ⟨gb,0,none⟩),.int .i64 how,.int .i64 p,.string s] w fun e w'=>∃ B:ByteArray,e = .returned (.string B)∧B.size≤34359738368∧Below w.heap.size w w':=by
 have c3:=F.file.cell F.c3
 have c4:=F.file.cell F.c4
 obtain ⟨N,hN⟩:∃ N:Nat,b.size=N:=⟨_,rfl⟩
 have htb:=F.tb
 have hbb:=F.bb
 have ht2:=F.t2
 rw[hN] at htb hbb
 obtain ⟨T2,hT2⟩:∃ T2:Nat,T+16=T2:=⟨_,rfl⟩
 have tT2:(T:Int)+16=(T2:Int):=by omega
 have jT2:(T2:Int)≤(N:Int):=by omega
 have jT1:(T:Int)≤(T2:Int):=by omega
 have jT3:(T:Int)≤(N:Int):=by omega
 have HPK:=hide (fun (m:Nat) w (h0:0<m) (h1:m≤1099511627776)=>kpick_any p m w p1 p2 h0 h1)
 have HF:=hide F
 have HG:=hide G
 have HH2:=hide HHO
 clear F G HHO
 go_enter Tryz.func14,Tryz.ntmps14
 go_wp2
 go_quiet (fail)
 go_wp2
 go_quiet (fail)
 generalize hw1:World.drewN (World.drewN w _) _=w1
 have F:FB fb b T bl fc w1:=by rw[←hw1];exact HF.out.after (below_drewN (below_drewN (Below.refl _ _) _) _)
 have G:FB gb b' T' bl' gc w1:=by rw[←hw1];exact HG.out.after (below_drewN (below_drewN (Below.refl _ _) _) _)
 have hb1:Below w.heap.size w w1:=by rw[←hw1];exact below_drewN (below_drewN (Below.refl _ _) _) _
 clear c3 c4 HF HG hw1
 obtain ⟨vb,hvb,hbx⟩:=F.bx
 have c6:=F.file.cell hvb
 have hfl:=F.file.lt
 obtain ⟨ao,cp,rfl,hsr⟩:=strs_src hbx
 obtain ⟨n,hn⟩:∃ n:Nat,bl.length=n:=⟨_,rfl⟩
 rw[hn] at c6 hsr
 have hn1:0<n:=by have:=F.n1;omega
 have hn2:n≤268435457:=by have:=F.n2;omega
 have hmk:=fun w=>make_strs n (by omega) w
 have HSP:=hide (strs_over bl n hn)
 have HSR:=hide hsr
 have HLN:=hide (show (strV bl).length=n by rw[strV_len,hn])
 have HN:=hide hn
 have HF:=hide F
 have HG:=hide G
 have HB1:=hide hb1
 clear F G hbx hsr hn hvb hb1
 have HPN:=hide (fun w=>HPK.out n w hn1 (by omega))
 go_wp2_with (refine wpList_copy_splice rfl (.tmp 50) (.tmp 54) 25 25 rfl 9 Tryz.underlying25 infoStr1 _ _ _ _ _ _ rfl rfl w1.heap.size 0 (List.replicate n (Value.string ByteArray.empty)) 9 ?_ (strV bl) ?_ ?_ ?_ (strV_one _) w1.heap.size w1 ?_ (Nat.le_refl _) ?_;exact Blk.new rfl rfl;(rw[HLN.out];exact (Nat.min_self n).symm);exact src_of HSR.out HLN.out;(rw[HLN.out];simp);exact (Below.refl _ _).alloc (Nat.le_refl _) _;intro w2 HB2 hbe2)
 refine (HPN.out _).mono ?_
 rintro e w3 ⟨rfl,rfl⟩
 have hB2:=HB2.out
 rw[HSP.out] at hB2
 have hi:=pickN_lt p n hn1
 have S2:=hide (show HoS w1 fb fc bl w3 from ⟨HF.out.file.below hbe2 hfl,hB2,hbe2⟩)
 generalize pickN p n=i at *
 clear hB2 HB2 hbe2 c6 HSR HSP HLN hmk HPN
 go_upto_region 8 with fail
 go_cut [66] from 59 (fun s66 wx=>wx=w3∧∃ bb:Bool,s66 = .bool bb∧(bb=true→0<s.size))
 case first=>
  by_cases h0:s.size=0
  ·have j0:¬ (0:Int)<(s.size:Int):=by omega
   go_wp2_with fail
   go_meet
   case rel=>exact ⟨rfl,false,rfl,fun h=>by cases h⟩
  ·have j0:(0:Int)<(s.size:Int):=by omega
   have j1:0<s.size:=by omega
   go_wp2_with fail
   go_meet
   case rel=>exact ⟨rfl,_,rfl,fun _=>j1⟩
 case rest=>
  obtain ⟨rfl,bb,rfl,hbb2⟩:=hcut
  go_upto_if 66 with fail
  go_cut [16] from 67 (fun s16 wx=>wx=wc∧∃ c:UInt8,s16 = .int .u8 ((c.toNat:Nat):Int))
  case first=>
   cases bb with
   | false=>
    go_wp2_with fail
    go_meet
    case rel=>exact ⟨rfl,1,rfl⟩
   | true=>
    have j1:=hbb2 rfl
    have j0:(0:Int)<(s.size:Int):=by omega
    go_wp2_with fail
    go_meet
    case rel=>exact ⟨rfl,_,rfl⟩
  case rest=>
   obtain ⟨rfl,c,rfl⟩:=hcut
   have hze1:(b.extract 0 T).size≤300:=by rw[ByteArray.size_extract];omega
   have hze2:(b.extract T T2).size≤16:=by rw[ByteArray.size_extract];omega
   have hze0:0<(b.extract 0 T).size:=by have:=HF.out.t1;rw[ByteArray.size_extract];omega
   generalize b.extract 0 T=tp at *
   generalize b.extract T T2=dw at *
   have S:=S2.out
   have hbw:Below w.heap.size w wc:=HB1.out.trans (S.be.mono HB1.out.size)
   have HBW:=hide hbw
   clear S hbw
   rcases hh with rfl | rfl | rfl | rfl | rfl | rfl | rfl | rfl | rfl | rfl | rfl | rfl | rfl
   ·have c3:=S2.out.file.cell HF.out.c3
    go_wp2
    go_ret
    exact ⟨b,rfl,by omega,HBW.out⟩
   ·have c3:=S2.out.file.cell HF.out.c3
    obtain ⟨N1,hN1⟩:∃ N1:Nat,N+1=N1:=⟨_,rfl⟩
    have tN1:(N:Int)+1=(N1:Int):=by omega
    have HPN:=hide (fun w=>HPK.out N1 w (by omega) (by omega))
    have hkl:=pickN_lt p N1 (by omega)
    generalize pickN p N1=k at *
    have jk:(k:Int)≤(N:Int):=by omega
    have hkb:k≤1000000000:=by omega
    have hN1b:N1≤1000000001:=by omega
    clear hN1 hkl
    go_wp2
    go_quiet ((go_at_call 15;exact Calls.quiet_of_same (HPN.out _)))
    go_wp2
    go_ret
    exact ⟨b.extract 0 k,rfl,by rw[ByteArray.size_extract];omega,below_drewN HBW.out _⟩
   ·have c3:=S2.out.file.cell HF.out.c3
    have HCG:=hide (fun w=>changed_any b p c w p1 p2 (by omega) (by omega))
    go_wp2_with fail
    refine (HCG.out _).mono ?_
    rintro e w4 ⟨r,rfl,hr,hb4⟩
    have HB4:=hide (HBW.out.trans (hb4.mono HBW.out.size))
    clear HCG hb4 c3
    go_wp2
    go_ret
    exact ⟨r,rfl,by omega,HB4.out⟩
   ·have c3:=S2.out.file.cell HF.out.c3
    go_wp2
    go_ret
    exact ⟨b++s,rfl,by rw[cat_size];omega,HBW.out⟩
   ·obtain ⟨i1,hi1⟩:∃ i1:Nat,i+1=i1:=⟨_,rfl⟩
    have ti1:(i:Int)+1=(i1:Int):=by omega
    have ji1:(i1:Int)≤(n:Int):=by omega
    have ji:(i:Int)≤(n:Int):=by omega
    have hi1n:i1≤n:=by omega
    have hrow:Row wc.drew w1.heap.size 9 1 (.slice (some ⟨w1.heap.size,0,none⟩) i n) i (strV (bl.take i)):=Row.ofTake S2.out.row (Nat.le_refl _) HN.out (by omega) (by omega)
    have HROW:=hide hrow
    have hnl:(bl.drop i1).length=n-i1:=by rw[List.length_drop,HN.out]
    have hnc:∀ j y,(bl.drop i1)[j]? = some y→wc.drew.cell? ((⟨w1.heap.size,i1,none⟩:Addr).add j)=some (.string y):=by
     intro j y hj
     rw[Addr.add_mid]
     rw[List.getElem?_drop] at hj
     refine S2.out.row.cell (i:=i1+j) ?_
     unfold strV
     rw[List.getElem?_map,hj]
     rfl
    have HNC:=hide (And.intro hnl hnc)
    have hsz:=S2.out.be.size
    clear hrow hnl hnc
    have hwr:IntKind.i64.wrap (i1:Int)=(i1:Int):=IntWalk.i64_in _ (by omega)
    have HZ:=hide (And.intro hze1 hze2)
    by_cases hni:n=i1
    ·subst hni
     go_wp2
     go_region
     go_wp2
     have hln:(bl.take i).length=i:=by rw[List.length_take,HN.out];omega
     obtain ⟨sv,hsv⟩:∃ x:Option Addr,some (⟨w1.heap.size,0,none⟩:Addr)=x:=⟨_,rfl⟩
     have hst:=Row.strs (show Row wc.drew w1.heap.size 9 1 (.slice (some ⟨w1.heap.size,0,none⟩) i n) (bl.take i).length (strV (bl.take i)) by rw[hln];exact HROW.out)
     rw[hsv] at hst ⊢
     have HST:=hide hst
     have HLM:=hide hln
     have HFW:=hide ((HF.out.few.take i).fw i)
     have HBL:=hide (show Below w.heap.size w wc.drew from HBW.out.trans ⟨rfl,rfl,rfl,Nat.le_refl _,fun _ _=>rfl⟩)
     have HMB:=hide (show i≤1000000000 by omega)
     clear hst hsv
     go_loopw [18,19] (fun vt vk wr=>BeL wc.drew (i) vt vk wr) (fun _ vk _=>i-(intOf vk).toNat)
     case atStart=>exact ⟨rfl,_,0,rfl,rfl,Nat.zero_le _,by have:=HZ.out;rw[cat_size];split <;> omega⟩
     case round=>
      obtain ⟨rfl,t,k,rfl,rfl,hk,ht⟩:=hrel
      by_cases hlt:k<i
      ·have jl:(k:Int)<((i:Nat):Int):=by omega
       obtain ⟨g0,o0,c0,hv0,hg0,e0⟩:=HST.out.at k (by rw[HLM.out];exact hlt)
       injection hv0 with hv0 hv0n hv0c
       clear hv0n hv0c
       subst hv0
       have hfx:=HFW.out k hlt
       generalize (bl.take i).getD k ⟨#[]⟩=x at *
       have HT:=hide (And.intro ht hfx)
       have HLT:=hide hlt
       have hMb:i≤1000000000:=HMB.out
       rw[if_neg (Nat.ne_of_lt hlt)] at ht
       have htb3:t.size≤34359738368:=by omega
       have hxz:x.size≤268435456:=by rcases hfx with h | ⟨_,h⟩ <;> omega
       have u1:¬ (9223372036854775807<t.size+x.size):=by omega
       clear ht hfx
       go_wp2
       go_roundw
       case rel=>
        have hlt:=HLT.out
        obtain ⟨h1,h2⟩:=HT.out
        rw[if_neg (Nat.ne_of_lt hlt)] at h1
        refine ⟨rfl,_,k+1,rfl,by go_num,hlt,?_⟩
        rw[cat_size]
        split
        ·rcases h2 with h2 | ⟨_,h2⟩ <;> omega
        ·rcases h2 with h2 | ⟨h3,_⟩ <;> omega
       case measure=>have:=HLT.out;simp[intOf];omega
      ·have jl:¬ (k:Int)<((i:Nat):Int):=by omega
       have hMb:i≤1000000000:=HMB.out
       go_wp2
       go_ret
       exact ⟨t,rfl,by split at ht <;> omega,HBL.out⟩
    ·have hni2:¬ n=i1:=hni
     go_wp2
     go_region_law (refine step_append_strs rfl (.tmp 112) (.tmp 116) rfl w1.heap.size (.slice (some ⟨w1.heap.size,0,none⟩) i n) i (bl.take i) (by kernel_rfl) HROW.out ⟨w1.heap.size,i1,none⟩ (n-i1) (n-i1) (bl.drop i1) (by kernel_rfl) HNC.out.1 HNC.out.2 (by omega) hsz ?_;intro v1 w5 hr1 hg1 hat1)
     go_wp2
     obtain ⟨sv,cv,rfl,_⟩:=Row.anyN hr1
     have hln:(bl.take i++bl.drop i1).length=i+(n-i1):=by rw[List.length_append,List.length_take,HNC.out.1,HN.out];omega
     rw[←hln] at hr1
     have hst:=Row.strs hr1
     rw[hln] at hst
     have HST:=hide hst
     have HLM:=hide hln
     have HFW:=hide (((HF.out.few.take i).app (HF.out.few.drop i1)).fw (i+(n-i1)))
     have hbd:Below w.heap.size w wc.drew:=HBW.out.trans ⟨rfl,rfl,rfl,Nat.le_refl _,fun _ _=>rfl⟩
     have HBL:=hide (hbd.trans (RowKit.Below.of_grown (w:=wc.drew) (show wc.drew.grownBy w5 (some w1.heap.size) from hg1) HB1.out.size hbd.size))
     have HMB:=hide (show i+(n-i1)≤1000000000 by omega)
     clear hr1 hg1 hat1 hst
     go_loopw [18,19] (fun vt vk wr=>BeL w5 (i+(n-i1)) vt vk wr) (fun _ vk _=>i+(n-i1)-(intOf vk).toNat)
     case atStart=>exact ⟨rfl,_,0,rfl,rfl,Nat.zero_le _,by have:=HZ.out;rw[cat_size];split <;> omega⟩
     case round=>
      obtain ⟨rfl,t,k,rfl,rfl,hk,ht⟩:=hrel
      by_cases hlt:k<i+(n-i1)
      ·have jl:(k:Int)<((i+(n-i1):Nat):Int):=by omega
       obtain ⟨g0,o0,c0,hv0,hg0,e0⟩:=HST.out.at k (by rw[HLM.out];exact hlt)
       injection hv0 with hv0 hv0n hv0c
       clear hv0n hv0c
       subst hv0
       have hfx:=HFW.out k hlt
       generalize (bl.take i++bl.drop i1).getD k ⟨#[]⟩=x at *
       have HT:=hide (And.intro ht hfx)
       have HLT:=hide hlt
       have hMb:i+(n-i1)≤1000000000:=HMB.out
       rw[if_neg (Nat.ne_of_lt hlt)] at ht
       have htb3:t.size≤34359738368:=by omega
       have hxz:x.size≤268435456:=by rcases hfx with h | ⟨_,h⟩ <;> omega
       have u1:¬ (9223372036854775807<t.size+x.size):=by omega
       clear ht hfx
       go_wp2
       go_roundw
       case rel=>
        have hlt:=HLT.out
        obtain ⟨h1,h2⟩:=HT.out
        rw[if_neg (Nat.ne_of_lt hlt)] at h1
        refine ⟨rfl,_,k+1,rfl,by go_num,hlt,?_⟩
        rw[cat_size]
        split
        ·rcases h2 with h2 | ⟨_,h2⟩ <;> omega
        ·rcases h2 with h2 | ⟨h3,_⟩ <;> omega
       case measure=>have:=HLT.out;simp[intOf];omega
      ·have jl:¬ (k:Int)<((i+(n-i1):Nat):Int):=by omega
       have hMb:i+(n-i1)≤1000000000:=HMB.out
       go_wp2
       go_ret
       exact ⟨t,rfl,by split at ht <;> omega,HBL.out⟩
   ·obtain ⟨vb,hvb,hbx⟩:=(HF.out.after S2.out.be).bx
    have c6:=S2.out.file.cell hvb
    obtain ⟨gx,ox,cx,hv,hgx,ei⟩:=hbx.at i (by rw[HN.out];exact hi)
    subst hv
    rw[HN.out] at c6
    have hxf:=HF.out.few.at i
    generalize bl.getD i ⟨#[]⟩=x at *
    have HZ:=hide (And.intro hze1 hze2)
    have hR8:Row wc w1.heap.size 9 1 (.slice (some ⟨w1.heap.size,0,none⟩) n n) n (strV bl):=Row.ofStrs S2.out.row (Nat.le_refl _) HN.out (by omega)
    have HR8:=hide hR8
    have hsz:=S2.out.be.size
    have HXF:=hide hxf
    clear hR8 hbx hvb hxf
    go_wp2_with (at_builtin;refine wpList_append_strB rfl (.tmp 120) (.tmp 128) rfl w1.heap.size _ n _ rfl (HR8.out.alloc _) wc.heap.size _ rfl (World.cell?_alloc_at _ _ _ _ rfl) ?_ ?_ ?_;omega;(simp;omega);intro v1 w5 hr1 hg1 hat1)
    obtain ⟨sv,cv,rfl,_⟩:=Row.anyN hr1
    have hln:(bl++[x]).length=n+1:=by rw[List.length_append,HN.out];rfl
    rw[←hln] at hr1
    have hst:=Row.strs hr1
    rw[hln] at hst
    have HST:=hide hst
    have HLM:=hide hln
    have HFW:=hide ((HF.out.few.snoc HXF.out).fw (n+1))
    have HBL:=hide (HB1.out.trans ((Below.grown (S2.out.be.alloc hsz _) hg1 (by simp;omega) (fun k hk=>(HR8.out.lt k hk).1)).mono HB1.out.size))
    have HMB:=hide (show n+1≤1000000000 by omega)
    clear hr1 hg1 hat1 hst
    go_loopw [18,19] (fun vt vk wr=>BeL w5 (n+1) vt vk wr) (fun _ vk _=>n+1-(intOf vk).toNat)
    case atStart=>exact ⟨rfl,_,0,rfl,rfl,Nat.zero_le _,by have:=HZ.out;rw[cat_size];split <;> omega⟩
    case round=>
     obtain ⟨rfl,t,k,rfl,rfl,hk,ht⟩:=hrel
     by_cases hlt:k<n+1
     ·have jl:(k:Int)<((n+1:Nat):Int):=by omega
      obtain ⟨g0,o0,c0,hv0,hg0,e0⟩:=HST.out.at k (by rw[HLM.out];exact hlt)
      injection hv0 with hv0 hv0n hv0c
      clear hv0n hv0c
      subst hv0
      have hfx:=HFW.out k hlt
      generalize (bl++[x]).getD k ⟨#[]⟩=x at *
      have HT:=hide (And.intro ht hfx)
      have HLT:=hide hlt
      have hMb:n+1≤1000000000:=HMB.out
      rw[if_neg (Nat.ne_of_lt hlt)] at ht
      have htb3:t.size≤34359738368:=by omega
      have hxz:x.size≤268435456:=by rcases hfx with h | ⟨_,h⟩ <;> omega
      have u1:¬ (9223372036854775807<t.size+x.size):=by omega
      clear ht hfx
      go_wp2
      go_roundw
      case rel=>
       have hlt:=HLT.out
       obtain ⟨h1,h2⟩:=HT.out
       rw[if_neg (Nat.ne_of_lt hlt)] at h1
       refine ⟨rfl,_,k+1,rfl,by go_num,hlt,?_⟩
       rw[cat_size]
       split
       ·rcases h2 with h2 | ⟨_,h2⟩ <;> omega
       ·rcases h2 with h2 | ⟨h3,_⟩ <;> omega
      case measure=>have:=HLT.out;simp[intOf];omega
     ·have jl:¬ (k:Int)<((n+1:Nat):Int):=by omega
      have hMb:n+1≤1000000000:=HMB.out
      go_wp2
      go_ret
      exact ⟨t,rfl,by split at ht <;> omega,HBL.out⟩
   ·obtain ⟨vb,hvb,hbx⟩:=(HF.out.after S2.out.be).bx
    have c6:=S2.out.file.cell hvb
    obtain ⟨gx,ox,cx,hv,hgx,ei⟩:=hbx.at i (by rw[HN.out];exact hi)
    subst hv
    rw[HN.out] at c6
    obtain ⟨j,hj⟩:∃ j:Nat,j=(i+1)%n:=⟨_,rfl⟩
    have hjn:j<n:=by rw[hj];exact Nat.mod_lt _ hn1
    have tj2:((i:Int)+1)%(n:Int)=(j:Int):=by rw[hj];exact (Int.natCast_emod (i+1) n).symm
    have tj1:((i:Int)+1).tmod (n:Int)=(j:Int):=by rw[Int.tmod_eq_emod_of_nonneg (by omega)];exact tj2
    clear hj
    have zn:((n:Int)==0)=false:=beq_eq_false_iff_ne.2 (by omega)
    obtain ⟨g',o',c',hv',hg',ej⟩:=hbx.at j (by rw[HN.out];exact hjn)
    injection hv' with hv1 _ _
    injection hv1 with hv1
    injection hv1 with hv1 hv2 _
    subst hv1
    subst hv2
    have hfi:=HF.out.few.at i
    have hfj:=HF.out.few.at j
    generalize bl.getD i ⟨#[]⟩=xi at *
    generalize bl.getD j ⟨#[]⟩=xj at *
    have ji:(i:Int)<(n:Int):=by omega
    have jj:(j:Int)<(n:Int):=by omega
    obtain ⟨y1,hy1⟩:=S2.out.at i (by rw[HN.out];exact hi)
    have hfz:=S2.out.row.frozen i
    have hgx1:gx<w1.heap.size:=by
     obtain ⟨vb1,hvb1,hbx1⟩:=HF.out.bx
     rw[hvb] at hvb1
     injection hvb1 with hvb1
     exact hbx1.blt gx ox _ cx (by rw[←hvb1]) (by rw[HN.out];exact hn1)
    have HZ:=hide (And.intro hze1 hze2)
    go_upto_region 26 with fail
    have S3:=hide (S2.out.set hfl i xj)
    generalize hw5:wc.setCell ⟨w1.heap.size,i,none⟩ (.string xj)=w5 at *
    have hx5:=S3.out.file.cell hvb
    rw[HN.out] at hx5
    have hei5:w5.cell? ⟨gx,ox+i,none⟩=some (.string xi):=by
     rw[←hw5,World.cell?_setCell_far _ ⟨w1.heap.size,i,none⟩ ⟨gx,ox+i,none⟩ _ (Nat.ne_of_gt hgx1)]
     exact ei
    obtain ⟨y2,hy2⟩:=S3.out.at j (by rw[List.length_set,HN.out];exact hjn)
    have hfz2:=S3.out.row.frozen j
    have S4:=hide (S3.out.set hfl j xi)
    clear c6 ei ej hy1 hfz hw5
    go_wp2
    have HLM:=hide (show ((bl.set i xj).set j xi).length=n by rw[List.length_set,List.length_set,HN.out])
    have HFW:=hide (((HF.out.few.set i hfj).set j hfi).fw n)
    have HRW:=hide S4.out.row
    have HBL:=hide (HB1.out.trans (S4.out.be.mono HB1.out.size))
    clear S4 S3 hy2 hfz2 hx5 hei5
    generalize w5.setCell ⟨w1.heap.size,j,none⟩ (.string xi)=w6 at *
    obtain ⟨sv,hsv⟩:∃ x:Option Addr,some (⟨w1.heap.size,0,none⟩:Addr)=x:=⟨_,rfl⟩
    have hst:=Row.strs (show Row w6 w1.heap.size 9 1 (.slice (some ⟨w1.heap.size,0,none⟩) n n) ((bl.set i xj).set j xi).length (strV ((bl.set i xj).set j xi)) by rw[HLM.out];exact Row.ofStrs HRW.out (Nat.le_refl _) HLM.out (by omega))
    rw[hsv] at hst ⊢
    have HST:=hide hst
    have HMB:=hide (show n≤1000000000 by omega)
    clear hst hsv
    go_loopw [18,19] (fun vt vk wr=>BeL w6 (n) vt vk wr) (fun _ vk _=>n-(intOf vk).toNat)
    case atStart=>exact ⟨rfl,_,0,rfl,rfl,Nat.zero_le _,by have:=HZ.out;rw[cat_size];split <;> omega⟩
    case round=>
     obtain ⟨rfl,t,k,rfl,rfl,hk,ht⟩:=hrel
     by_cases hlt:k<n
     ·have jl:(k:Int)<((n:Nat):Int):=by omega
      obtain ⟨g0,o0,c0,hv0,hg0,e0⟩:=HST.out.at k (by rw[HLM.out];exact hlt)
      injection hv0 with hv0 hv0n hv0c
      clear hv0n hv0c
      subst hv0
      have hfx:=HFW.out k hlt
      generalize ((bl.set i xj).set j xi).getD k ⟨#[]⟩=x at *
      have HT:=hide (And.intro ht hfx)
      have HLT:=hide hlt
      have hMb:n≤1000000000:=HMB.out
      rw[if_neg (Nat.ne_of_lt hlt)] at ht
      have htb3:t.size≤34359738368:=by omega
      have hxz:x.size≤268435456:=by rcases hfx with h | ⟨_,h⟩ <;> omega
      have u1:¬ (9223372036854775807<t.size+x.size):=by omega
      clear ht hfx
      go_wp2
      go_roundw
      case rel=>
       have hlt:=HLT.out
       obtain ⟨h1,h2⟩:=HT.out
       rw[if_neg (Nat.ne_of_lt hlt)] at h1
       refine ⟨rfl,_,k+1,rfl,by go_num,hlt,?_⟩
       rw[cat_size]
       split
       ·rcases h2 with h2 | ⟨_,h2⟩ <;> omega
       ·rcases h2 with h2 | ⟨h3,_⟩ <;> omega
      case measure=>have:=HLT.out;simp[intOf];omega
     ·have jl:¬ (k:Int)<((n:Nat):Int):=by omega
      have hMb:n≤1000000000:=HMB.out
      go_wp2
      go_ret
      exact ⟨t,rfl,by split at ht <;> omega,HBL.out⟩
   ·have G3:=HG.out.after S2.out.be
    obtain ⟨vg,hvg,hgx⟩:=G3.bx
    have c6:=G3.file.cell hvg
    obtain ⟨n',hn'⟩:∃ n':Nat,bl'.length=n':=⟨_,rfl⟩
    have hn1':0<n':=by have:=G3.n1;omega
    have hn2':n'≤268435457:=by have:=G3.n2;omega
    have HPN:=hide (fun w=>HPK.out n' w hn1' (by omega))
    have hk:=pickN_lt p n' hn1'
    generalize pickN p n'=k at *
    obtain ⟨gx,ox,cx,hv,hgxl,ek⟩:=hgx.at k (by rw[hn'];exact hk)
    subst hv
    rw[hn'] at c6
    have hxf:=G3.few.at k
    generalize bl'.getD k ⟨#[]⟩=x at *
    have hgl:=G3.file.lt
    have hgl1:gb<w1.heap.size:=HG.out.file.lt
    have hgx1:gx<w1.heap.size:=by
     obtain ⟨vg1,hvg1,hbx1⟩:=HG.out.bx
     rw[hvg] at hvg1
     injection hvg1 with hvg1
     exact hbx1.blt gx ox _ cx (by rw[←hvg1]) (by rw[hn'];exact hn1')
    have ji:(i:Int)<(n:Int):=by omega
    have jk:(k:Int)<(n':Int):=by omega
    obtain ⟨y1,hy1⟩:=S2.out.at i (by rw[HN.out];exact hi)
    have hfz:=S2.out.row.frozen i
    have hne1:w1.heap.size≠gb:=Nat.ne_of_gt hgl1
    have hne2:w1.heap.size≠gx:=Nat.ne_of_gt hgx1
    have S3:=hide (S2.out.set hfl i x)
    have HXF:=hide hxf
    have c6D:wc.drew.cell? ⟨gb,6,none⟩=some (.slice (some ⟨gx,ox,none⟩) n' cx):=c6
    have ekD:wc.drew.cell? ⟨gx,ox+k,none⟩=some (.string x):=ek
    have c6S:(wc.setCell ⟨w1.heap.size,i,none⟩ (.string x)).drew.cell? ⟨gb,6,none⟩=some (.slice (some ⟨gx,ox,none⟩) n' cx):=(World.cell?_setCell_far _ ⟨w1.heap.size,i,none⟩ ⟨gb,6,none⟩ _ hne1).trans c6
    have ekS:(wc.setCell ⟨w1.heap.size,i,none⟩ (.string x)).drew.cell? ⟨gx,ox+k,none⟩=some (.string x):=(World.cell?_setCell_far _ ⟨w1.heap.size,i,none⟩ ⟨gx,ox+k,none⟩ _ hne2).trans ek
    have HZ:=hide (And.intro hze1 hze2)
    clear G3 hgx hvg hxf hn'
    go_wp2
    go_region_held3 (fun w'=>w'.cell? ⟨gb,6,none⟩=some (.slice (some ⟨gx,ox,none⟩) n' cx)∧w'.cell? ⟨gx,ox+k,none⟩=some (.string x)) (refine ⟨?_,?_⟩ <;> assumption) ((go_at_call 15;refine (HPN.out _).mono ?_;rintro e w5 ⟨rfl,rfl⟩))
    rename_i hH
    clear hH
    go_wp2
    have HLM:=hide (show (bl.set i x).length=n by rw[List.length_set,HN.out])
    have HFW:=hide ((HF.out.few.set i HXF.out).fw n)
    have HRW:=hide (show Blk (wc.setCell ⟨w1.heap.size,i,none⟩ (.string x)).drew w1.heap.size 9 (strV (bl.set i x)) from S3.out.row)
    have HBL:=hide (show Below w.heap.size w (wc.setCell ⟨w1.heap.size,i,none⟩ (.string x)).drew from (HB1.out.trans (S3.out.be.mono HB1.out.size)).trans ⟨rfl,rfl,rfl,Nat.le_refl _,fun _ _=>rfl⟩)
    clear c6S ekS S3
    generalize (wc.setCell ⟨w1.heap.size,i,none⟩ (.string x)).drew=w6 at *
    obtain ⟨sv,hsv⟩:∃ x:Option Addr,some (⟨w1.heap.size,0,none⟩:Addr)=x:=⟨_,rfl⟩
    have hst:=Row.strs (show Row w6 w1.heap.size 9 1 (.slice (some ⟨w1.heap.size,0,none⟩) n n) (bl.set i x).length (strV (bl.set i x)) by rw[HLM.out];exact Row.ofStrs HRW.out (Nat.le_refl _) HLM.out (by omega))
    rw[hsv] at hst ⊢
    have HST:=hide hst
    have HMB:=hide (show n≤1000000000 by omega)
    clear hst hsv
    go_loopw [18,19] (fun vt vk wr=>BeL w6 (n) vt vk wr) (fun _ vk _=>n-(intOf vk).toNat)
    case atStart=>exact ⟨rfl,_,0,rfl,rfl,Nat.zero_le _,by have:=HZ.out;rw[cat_size];split <;> omega⟩
    case round=>
     obtain ⟨rfl,t,k,rfl,rfl,hk,ht⟩:=hrel
     by_cases hlt:k<n
     ·have jl:(k:Int)<((n:Nat):Int):=by omega
      obtain ⟨g0,o0,c0,hv0,hg0,e0⟩:=HST.out.at k (by rw[HLM.out];exact hlt)
      injection hv0 with hv0 hv0n hv0c
      clear hv0n hv0c
      subst hv0
      have hfx:=HFW.out k hlt
      generalize (bl.set i x).getD k ⟨#[]⟩=x at *
      have HT:=hide (And.intro ht hfx)
      have HLT:=hide hlt
      have hMb:n≤1000000000:=HMB.out
      rw[if_neg (Nat.ne_of_lt hlt)] at ht
      have htb3:t.size≤34359738368:=by omega
      have hxz:x.size≤268435456:=by rcases hfx with h | ⟨_,h⟩ <;> omega
      have u1:¬ (9223372036854775807<t.size+x.size):=by omega
      clear ht hfx
      go_wp2
      go_roundw
      case rel=>
       have hlt:=HLT.out
       obtain ⟨h1,h2⟩:=HT.out
       rw[if_neg (Nat.ne_of_lt hlt)] at h1
       refine ⟨rfl,_,k+1,rfl,by go_num,hlt,?_⟩
       rw[cat_size]
       split
       ·rcases h2 with h2 | ⟨_,h2⟩ <;> omega
       ·rcases h2 with h2 | ⟨h3,_⟩ <;> omega
      case measure=>have:=HLT.out;simp[intOf];omega
     ·have jl:¬ (k:Int)<((n:Nat):Int):=by omega
      have hMb:n≤1000000000:=HMB.out
      go_wp2
      go_ret
      exact ⟨t,rfl,by split at ht <;> omega,HBL.out⟩
   ·have ji:(i:Int)≤(n:Int):=by omega
    have HZ:=hide (And.intro hze1 hze2)
    have hR8:Row wc w1.heap.size 9 1 (.slice (some ⟨w1.heap.size,0,none⟩) i n) i (strV (bl.take i)):=Row.ofTake S2.out.row (Nat.le_refl _) HN.out (by omega) (by omega)
    have HR8:=hide hR8
    have hsz:=S2.out.be.size
    clear hR8
    go_wp2_with (at_builtin;refine wpList_append_strB rfl (.tmp 179) (.tmp 181) rfl w1.heap.size _ i _ rfl (HR8.out.alloc _) wc.heap.size _ rfl (World.cell?_alloc_at _ _ _ _ rfl) ?_ ?_ ?_;omega;(simp;omega);intro v1 w5 hr1 hg1 hat1)
    obtain ⟨sv,cv,rfl,_⟩:=Row.anyN hr1
    have htl:(bl.take i).length=i:=by rw[List.length_take,HN.out];omega
    have hln:(bl.take i++[s]).length=i+1:=by rw[List.length_append,htl];rfl
    rw[←hln] at hr1
    have hst:=Row.strs hr1
    rw[hln] at hst
    have HST:=hide hst
    have HLM:=hide hln
    have hfw:=fw_snoc (HF.out.few.take i) hs
    rw[htl] at hfw
    have HFW:=hide hfw
    have HBL:=hide (HB1.out.trans ((Below.grown (S2.out.be.alloc hsz _) hg1 (by simp;omega) (fun k hk=>(HR8.out.lt k hk).1)).mono HB1.out.size))
    have HMB:=hide (show i+1≤1000000000 by omega)
    clear hr1 hg1 hat1 hst hfw
    go_loopw [18,19] (fun vt vk wr=>BeL w5 (i+1) vt vk wr) (fun _ vk _=>i+1-(intOf vk).toNat)
    case atStart=>exact ⟨rfl,_,0,rfl,rfl,Nat.zero_le _,by have:=HZ.out;rw[cat_size];split <;> omega⟩
    case round=>
     obtain ⟨rfl,t,k,rfl,rfl,hk,ht⟩:=hrel
     by_cases hlt:k<i+1
     ·have jl:(k:Int)<((i+1:Nat):Int):=by omega
      obtain ⟨g0,o0,c0,hv0,hg0,e0⟩:=HST.out.at k (by rw[HLM.out];exact hlt)
      injection hv0 with hv0 hv0n hv0c
      clear hv0n hv0c
      subst hv0
      have hfx:=HFW.out k hlt
      generalize (bl.take i++[s]).getD k ⟨#[]⟩=x at *
      have HT:=hide (And.intro ht hfx)
      have HLT:=hide hlt
      have hMb:i+1≤1000000000:=HMB.out
      rw[if_neg (Nat.ne_of_lt hlt)] at ht
      have htb3:t.size≤34359738368:=by omega
      have hxz:x.size≤268435456:=by rcases hfx with h | ⟨_,h⟩ <;> omega
      have u1:¬ (9223372036854775807<t.size+x.size):=by omega
      clear ht hfx
      go_wp2
      go_roundw
      case rel=>
       have hlt:=HLT.out
       obtain ⟨h1,h2⟩:=HT.out
       rw[if_neg (Nat.ne_of_lt hlt)] at h1
       refine ⟨rfl,_,k+1,rfl,by go_num,hlt,?_⟩
       rw[cat_size]
       split
       ·rcases h2 with h2 | ⟨_,h2⟩ <;> omega
       ·rcases h2 with h2 | ⟨h3,_⟩ <;> omega
      case measure=>have:=HLT.out;simp[intOf];omega
     ·have jl:¬ (k:Int)<((i+1:Nat):Int):=by omega
      have hMb:i+1≤1000000000:=HMB.out
      go_wp2
      go_ret
      exact ⟨t,rfl,by split at ht <;> omega,HBL.out⟩
   ·have c3:=(HG.out.after S2.out.be).file.cell HG.out.c3
    have c4:=(HG.out.after S2.out.be).file.cell HG.out.c4
    obtain ⟨N',hN'⟩:∃ N:Nat,b'.size=N:=⟨_,rfl⟩
    have htb':=HG.out.tb
    have hbb':=HG.out.bb
    have ht2':=HG.out.t2
    rw[hN'] at htb' hbb'
    obtain ⟨T2',hT2'⟩:∃ T2:Nat,T'+16=T2:=⟨_,rfl⟩
    have tT2':(T':Int)+16=(T2':Int):=by omega
    have jT2':(T2':Int)≤(N':Int):=by omega
    have jT1':(T':Int)≤(T2':Int):=by omega
    have jT3':(T':Int)≤(N':Int):=by omega
    have hze3:(b'.extract T' T2').size≤16:=by rw[ByteArray.size_extract];omega
    go_wp2
    go_quiet (fail)
    generalize b'.extract T' T2'=dw' at *
    have HZ:=hide (And.intro hze1 hze3)
    go_wp2
    generalize hw6:World.drewN wc _=w6
    have HLM:=HN
    have HFW:=hide (HF.out.few.fw n)
    have HRW:Hid (Blk w6 w1.heap.size 9 (strV bl)):=hide (by rw[←hw6];exact S2.out.row.drewN _)
    have HBL:Hid (Below w.heap.size w w6):=hide (by rw[←hw6];exact below_drewN HBW.out _)
    clear hw6
    obtain ⟨sv,hsv⟩:∃ x:Option Addr,some (⟨w1.heap.size,0,none⟩:Addr)=x:=⟨_,rfl⟩
    have hst:=Row.strs (show Row w6 w1.heap.size 9 1 (.slice (some ⟨w1.heap.size,0,none⟩) n n) (bl).length (strV (bl)) by rw[HLM.out];exact Row.ofStrs HRW.out (Nat.le_refl _) HLM.out (by omega))
    rw[hsv] at hst ⊢
    have HST:=hide hst
    have HMB:=hide (show n≤1000000000 by omega)
    clear hst hsv
    go_loopw [18,19] (fun vt vk wr=>BeL w6 (n) vt vk wr) (fun _ vk _=>n-(intOf vk).toNat)
    case atStart=>exact ⟨rfl,_,0,rfl,rfl,Nat.zero_le _,by have:=HZ.out;rw[cat_size];split <;> omega⟩
    case round=>
     obtain ⟨rfl,t,k,rfl,rfl,hk,ht⟩:=hrel
     by_cases hlt:k<n
     ·have jl:(k:Int)<((n:Nat):Int):=by omega
      obtain ⟨g0,o0,c0,hv0,hg0,e0⟩:=HST.out.at k (by rw[HLM.out];exact hlt)
      injection hv0 with hv0 hv0n hv0c
      clear hv0n hv0c
      subst hv0
      have hfx:=HFW.out k hlt
      generalize (bl).getD k ⟨#[]⟩=x at *
      have HT:=hide (And.intro ht hfx)
      have HLT:=hide hlt
      have hMb:n≤1000000000:=HMB.out
      rw[if_neg (Nat.ne_of_lt hlt)] at ht
      have htb3:t.size≤34359738368:=by omega
      have hxz:x.size≤268435456:=by rcases hfx with h | ⟨_,h⟩ <;> omega
      have u1:¬ (9223372036854775807<t.size+x.size):=by omega
      clear ht hfx
      go_wp2
      go_roundw
      case rel=>
       have hlt:=HLT.out
       obtain ⟨h1,h2⟩:=HT.out
       rw[if_neg (Nat.ne_of_lt hlt)] at h1
       refine ⟨rfl,_,k+1,rfl,by go_num,hlt,?_⟩
       rw[cat_size]
       split
       ·rcases h2 with h2 | ⟨_,h2⟩ <;> omega
       ·rcases h2 with h2 | ⟨h3,_⟩ <;> omega
      case measure=>have:=HLT.out;simp[intOf];omega
     ·have jl:¬ (k:Int)<((n:Nat):Int):=by omega
      have hMb:n≤1000000000:=HMB.out
      go_wp2
      go_ret
      exact ⟨t,rfl,by split at ht <;> omega,HBL.out⟩
   ·have c3:=(HG.out.after S2.out.be).file.cell HG.out.c3
    have c4:=(HG.out.after S2.out.be).file.cell HG.out.c4
    obtain ⟨N',hN'⟩:∃ N:Nat,b'.size=N:=⟨_,rfl⟩
    have htb':=HG.out.tb
    have hbb':=HG.out.bb
    have ht2':=HG.out.t2
    rw[hN'] at htb' hbb'
    obtain ⟨T2',hT2'⟩:∃ T2:Nat,T'+16=T2:=⟨_,rfl⟩
    have tT2':(T':Int)+16=(T2':Int):=by omega
    have jT2':(T2':Int)≤(N':Int):=by omega
    have jT1':(T':Int)≤(T2':Int):=by omega
    have jT3':(T':Int)≤(N':Int):=by omega
    have hze3:(b'.extract 0 T').size≤300:=by rw[ByteArray.size_extract];omega
    go_wp2
    go_quiet (fail)
    generalize b'.extract 0 T'=tp' at *
    have HZ:=hide (And.intro hze3 hze2)
    go_wp2
    generalize hw6:World.drewN wc _=w6
    have HLM:=HN
    have HFW:=hide (HF.out.few.fw n)
    have HRW:Hid (Blk w6 w1.heap.size 9 (strV bl)):=hide (by rw[←hw6];exact S2.out.row.drewN _)
    have HBL:Hid (Below w.heap.size w w6):=hide (by rw[←hw6];exact below_drewN HBW.out _)
    clear hw6
    obtain ⟨sv,hsv⟩:∃ x:Option Addr,some (⟨w1.heap.size,0,none⟩:Addr)=x:=⟨_,rfl⟩
    have hst:=Row.strs (show Row w6 w1.heap.size 9 1 (.slice (some ⟨w1.heap.size,0,none⟩) n n) (bl).length (strV (bl)) by rw[HLM.out];exact Row.ofStrs HRW.out (Nat.le_refl _) HLM.out (by omega))
    rw[hsv] at hst ⊢
    have HST:=hide hst
    have HMB:=hide (show n≤1000000000 by omega)
    clear hst hsv
    go_loopw [18,19] (fun vt vk wr=>BeL w6 (n) vt vk wr) (fun _ vk _=>n-(intOf vk).toNat)
    case atStart=>exact ⟨rfl,_,0,rfl,rfl,Nat.zero_le _,by have:=HZ.out;rw[cat_size];split <;> omega⟩
    case round=>
     obtain ⟨rfl,t,k,rfl,rfl,hk,ht⟩:=hrel
     by_cases hlt:k<n
     ·have jl:(k:Int)<((n:Nat):Int):=by omega
      obtain ⟨g0,o0,c0,hv0,hg0,e0⟩:=HST.out.at k (by rw[HLM.out];exact hlt)
      injection hv0 with hv0 hv0n hv0c
      clear hv0n hv0c
      subst hv0
      have hfx:=HFW.out k hlt
      generalize (bl).getD k ⟨#[]⟩=x at *
      have HT:=hide (And.intro ht hfx)
      have HLT:=hide hlt
      have hMb:n≤1000000000:=HMB.out
      rw[if_neg (Nat.ne_of_lt hlt)] at ht
      have htb3:t.size≤34359738368:=by omega
      have hxz:x.size≤268435456:=by rcases hfx with h | ⟨_,h⟩ <;> omega
      have u1:¬ (9223372036854775807<t.size+x.size):=by omega
      clear ht hfx
      go_wp2
      go_roundw
      case rel=>
       have hlt:=HLT.out
       obtain ⟨h1,h2⟩:=HT.out
       rw[if_neg (Nat.ne_of_lt hlt)] at h1
       refine ⟨rfl,_,k+1,rfl,by go_num,hlt,?_⟩
       rw[cat_size]
       split
       ·rcases h2 with h2 | ⟨_,h2⟩ <;> omega
       ·rcases h2 with h2 | ⟨h3,_⟩ <;> omega
      case measure=>have:=HLT.out;simp[intOf];omega
     ·have jl:¬ (k:Int)<((n:Nat):Int):=by omega
      have hMb:n≤1000000000:=HMB.out
      go_wp2
      go_ret
      exact ⟨t,rfl,by split at ht <;> omega,HBL.out⟩
   ·have HCG:=hide (fun w=>changed_any tp p c w p1 p2 hze0 (by omega))
    go_wp2_with fail
    refine (HCG.out _).mono ?_
    rintro e w6 ⟨r,rfl,hr,hb4⟩
    have HLM:=HN
    have HFW:=hide (HF.out.few.fw n)
    have HRW:=hide (S2.out.after hb4).row
    have HBL:=hide (HBW.out.trans (hb4.mono HBW.out.size))
    have HZ:=hide (show r.size≤300∧dw.size≤16 from ⟨by omega,hze2⟩)
    clear HCG hb4
    go_wp2
    obtain ⟨sv,hsv⟩:∃ x:Option Addr,some (⟨w1.heap.size,0,none⟩:Addr)=x:=⟨_,rfl⟩
    have hst:=Row.strs (show Row w6 w1.heap.size 9 1 (.slice (some ⟨w1.heap.size,0,none⟩) n n) (bl).length (strV (bl)) by rw[HLM.out];exact Row.ofStrs HRW.out (Nat.le_refl _) HLM.out (by omega))
    rw[hsv] at hst ⊢
    have HST:=hide hst
    have HMB:=hide (show n≤1000000000 by omega)
    clear hst hsv
    go_loopw [18,19] (fun vt vk wr=>BeL w6 (n) vt vk wr) (fun _ vk _=>n-(intOf vk).toNat)
    case atStart=>exact ⟨rfl,_,0,rfl,rfl,Nat.zero_le _,by have:=HZ.out;rw[cat_size];split <;> omega⟩
    case round=>
     obtain ⟨rfl,t,k,rfl,rfl,hk,ht⟩:=hrel
     by_cases hlt:k<n
     ·have jl:(k:Int)<((n:Nat):Int):=by omega
      obtain ⟨g0,o0,c0,hv0,hg0,e0⟩:=HST.out.at k (by rw[HLM.out];exact hlt)
      injection hv0 with hv0 hv0n hv0c
      clear hv0n hv0c
      subst hv0
      have hfx:=HFW.out k hlt
      generalize (bl).getD k ⟨#[]⟩=x at *
      have HT:=hide (And.intro ht hfx)
      have HLT:=hide hlt
      have hMb:n≤1000000000:=HMB.out
      rw[if_neg (Nat.ne_of_lt hlt)] at ht
      have htb3:t.size≤34359738368:=by omega
      have hxz:x.size≤268435456:=by rcases hfx with h | ⟨_,h⟩ <;> omega
      have u1:¬ (9223372036854775807<t.size+x.size):=by omega
      clear ht hfx
      go_wp2
      go_roundw
      case rel=>
       have hlt:=HLT.out
       obtain ⟨h1,h2⟩:=HT.out
       rw[if_neg (Nat.ne_of_lt hlt)] at h1
       refine ⟨rfl,_,k+1,rfl,by go_num,hlt,?_⟩
       rw[cat_size]
       split
       ·rcases h2 with h2 | ⟨_,h2⟩ <;> omega
       ·rcases h2 with h2 | ⟨h3,_⟩ <;> omega
      case measure=>have:=HLT.out;simp[intOf];omega
     ·have jl:¬ (k:Int)<((n:Nat):Int):=by omega
      have hMb:n≤1000000000:=HMB.out
      go_wp2
      go_ret
      exact ⟨t,rfl,by split at ht <;> omega,HBL.out⟩
   ·have HHL:=hide (HH2.out wc HBW.out)
    have HZ:=hide (And.intro hze1 hze2)
    go_wp2_with fail
    refine HHL.out.mono ?_
    rintro e w6 ⟨u,L,rfl,hr,hfew,hlen,hb4⟩
    obtain ⟨m,hm⟩:∃ m:Nat,L.length=m:=⟨_,rfl⟩
    have hst:=Row.strs hr
    rw[hm] at hr hlen
    obtain ⟨sv,cv,rfl,_⟩:=Row.anyN hr
    have HST:=hide hst
    have HLM:=hide hm
    have HFW:=hide (hfew.fw m)
    have HBL:=hide (HBW.out.trans (hb4.mono HBW.out.size))
    have HMB:=hide (show m≤1000000000 by omega)
    clear HHL hb4 hr hst hfew
    go_wp2
    go_loopw [18,19] (fun vt vk wr=>BeL w6 (m) vt vk wr) (fun _ vk _=>m-(intOf vk).toNat)
    case atStart=>exact ⟨rfl,_,0,rfl,rfl,Nat.zero_le _,by have:=HZ.out;rw[cat_size];split <;> omega⟩
    case round=>
     obtain ⟨rfl,t,k,rfl,rfl,hk,ht⟩:=hrel
     by_cases hlt:k<m
     ·have jl:(k:Int)<((m:Nat):Int):=by omega
      obtain ⟨g0,o0,c0,hv0,hg0,e0⟩:=HST.out.at k (by rw[HLM.out];exact hlt)
      injection hv0 with hv0 hv0n hv0c
      clear hv0n hv0c
      subst hv0
      have hfx:=HFW.out k hlt
      generalize (L).getD k ⟨#[]⟩=x at *
      have HT:=hide (And.intro ht hfx)
      have HLT:=hide hlt
      have hMb:m≤1000000000:=HMB.out
      rw[if_neg (Nat.ne_of_lt hlt)] at ht
      have htb3:t.size≤34359738368:=by omega
      have hxz:x.size≤268435456:=by rcases hfx with h | ⟨_,h⟩ <;> omega
      have u1:¬ (9223372036854775807<t.size+x.size):=by omega
      clear ht hfx
      go_wp2
      go_roundw
      case rel=>
       have hlt:=HLT.out
       obtain ⟨h1,h2⟩:=HT.out
       rw[if_neg (Nat.ne_of_lt hlt)] at h1
       refine ⟨rfl,_,k+1,rfl,by go_num,hlt,?_⟩
       rw[cat_size]
       split
       ·rcases h2 with h2 | ⟨_,h2⟩ <;> omega
       ·rcases h2 with h2 | ⟨h3,_⟩ <;> omega
      case measure=>have:=HLT.out;simp[intOf];omega
     ·have jl:¬ (k:Int)<((m:Nat):Int):=by omega
      have hMb:m≤1000000000:=HMB.out
      go_wp2
      go_ret
      exact ⟨t,rfl,by split at ht <;> omega,HBL.out⟩
def MdR (text:ByteArray) (fb:Nat) (v vb:Value) (l:List ByteArray) (d:ByteArray) (w:World):Prop:=1≤l.length∧l.length≤3∧(∀ m ∈ l,m.size=32)∧d.size=16*(l.length+2)∧FileR fb v vb l d text (fileB l d text) (Ref.head l d 0) (Ref.pkey l d 0) w
theorem MdR.after {text:ByteArray} {fb:Nat} {v vb:Value} {l:List ByteArray} {d:ByteArray} {w w':World} (h:MdR text fb v vb l d w) (hb:Below w.heap.size w w'):MdR text fb v vb l d w':=⟨h.1,h.2.1,h.2.2.1,h.2.2.2.1,h.2.2.2.2.after hb⟩
theorem MdR.fx {text:ByteArray} {fb:Nat} {v vb:Value} {l:List ByteArray} {d:ByteArray} {w:World} (h:MdR text fb v vb l d w):FX fb text (Ref.pkey l d 0) w:=⟨v,vb,l,d,_,_,h.2.2.2.2⟩
theorem MdR.fb {text:ByteArray} {fb:Nat} {v vb:Value} {l:List ByteArray} {d:ByteArray} {w:World} (h:MdR text fb v vb l d w) (hx:text.size≤268435456):∃ bl fc,FB fb (fileB l d text) (Ref.head l d 0).size bl fc w:=by
 obtain ⟨h1,h3,hm,hd,R⟩:=h
 have F:=file_facts l d text h1 h3 hd
 have e1:=F.bz
 have e2:=F.hs
 have e3:=Ref.encF_len (key:=(Ref.pkey l d 0).data.toList) (by rw[ba_len,F.ky]) text.data.toList
 have e4:=Ref.full_nums text.data.toList.length
 have e5:text.data.toList.length=text.size:=ba_len _
 have e6:=Ref.full_nums text.size
 refine ⟨_,_,R.blk,rfl,rfl,by omega,by omega,by omega,by omega,few_boxes _ _,by rw[Ref.boxesL_len];omega,by rw[Ref.boxesL_len];omega,vb,rfl,R.bx⟩
theorem MdR.hollow {text:ByteArray} {fb:Nat} {v vb:Value} {l:List ByteArray} {d:ByteArray} {w:World} (h:MdR text fb v vb l d w) (hx:text.size≤268435456):∀ w',Below w.heap.size w w'→Calls Tryz.prog 42 #[.pointer (some ⟨fb,0,none⟩)] w' fun e w2=>∃ u L,e = .returned u∧Row w2 w'.heap.size 9 1 u L.length (strV L)∧Few L∧L.length≤268435458∧Below w'.heap.size w' w2:=by
 intro w' hb
 obtain ⟨h1,h3,hm,hd,R⟩:=h.after hb
 exact hollow_any fb v vb l d text _ _ _ w' R (file_facts l d text h1 h3 hd).ky hx
structure TwoR (text other:ByteArray) (wb fs fb gb:Nat) (v vb:Value) (l:List ByteArray) (d:ByteArray) (v' vb':Value) (l':List ByteArray) (d':ByteArray) (w0 w:World):Prop where
 wld:Blk w wb 43 [.slice (some ⟨fs,0,none⟩) 2 2]
 fls:Blk w fs 22 [.pointer (some ⟨fb,0,none⟩),.pointer (some ⟨gb,0,none⟩)]
 f:MdR text fb v vb l d w
 g:MdR other gb v' vb' l' d' w
 tb:Tabs w
 be:Below w0.heap.size w0 w
theorem TwoR.after {text other:ByteArray} {wb fs fb gb:Nat} {v vb:Value} {l:List ByteArray} {d:ByteArray} {v' vb':Value} {l':List ByteArray} {d':ByteArray} {w0 w w':World} (h:TwoR text other wb fs fb gb v vb l d v' vb' l' d' w0 w) (hb:Below w.heap.size w w'):TwoR text other wb fs fb gb v vb l d v' vb' l' d' w0 w':=
 ⟨h.wld.below hb h.wld.lt,h.fls.below hb h.fls.lt,h.f.after hb,h.g.after hb,h.tb.after hb,h.be.trans (hb.mono h.be.size)⟩
theorem TwoR.wl {text other:ByteArray} {wb fs fb gb:Nat} {v vb:Value} {l:List ByteArray} {d:ByteArray} {v' vb':Value} {l':List ByteArray} {d':ByteArray} {w0 w:World} (h:TwoR text other wb fs fb gb v vb l d v' vb' l' d' w0 w):WldR wb fs fb gb text (Ref.pkey l d 0) other (Ref.pkey l' d' 0) w:=⟨h.wld,h.fls,h.f.fx,h.g.fx⟩
def TwoP (text other s:ByteArray) (w:World) (e:Ending) (w':World):Prop:=
 (e = .returned (.tuple #[.pointer none,.bool true])∧w'=w)∨(text.size≤268435456∧other.size≤268435456∧s.size≤268435456∧∃ wb fs fb gb v vb l d v' vb' l' d',e = .returned (.tuple #[.pointer (some ⟨wb,0,none⟩),.bool true])∧TwoR text other wb fs fb gb v vb l d v' vb' l' d' w w')
theorem next_c (c:Int) (h1 : -9223372036854775808≤c) (h2:c≤9223372036854775807):∃ c',IntKind.i64.wrap (c+1)=c'∧wrap64 (c+1)=c'∧-9223372036854775808≤c'∧c'≤9223372036854775807:=by
 rcases Int.lt_or_eq_of_le h2 with h | h
 ·exact ⟨c+1,IntWalk.i64_in _ (by omega),IntWalk.wrap64_in _ (by omega),by omega,by omega⟩
 ·subst h
  exact ⟨-9223372036854775808,rfl,by decide +kernel,by decide,by decide⟩
set_option maxRecDepth 100000 in
set_option maxHeartbeats 1600000 in
theorem two_any (text other s who:ByteArray) (p c:Int) (w:World) (ht:Tabs w) (hwho:who.size≤9223372036854775807) (p1 : -9223372036854775808≤p) (p2:p≤9223372036854775807) (c1 : -9223372036854775808≤c) (c2:c≤9223372036854775807):
  Calls Tryz.prog 13 #[.string text,.string other,.string s,.string who,.int .i64 p,.int .i64 c] w (TwoP text other s w):=by
 obtain ⟨X,hX⟩:∃ X:Nat,text.size=X:=⟨_,rfl⟩
 obtain ⟨Y,hY⟩:∃ Y:Nat,other.size=Y:=⟨_,rfl⟩
 obtain ⟨Z,hZ⟩:∃ Z:Nat,s.size=Z:=⟨_,rfl⟩
 by_cases h1:268435456<X
 ·have z1:(decide ((268435456:Int)<(X:Int)))=true:=by simp;omega
  go_enter Tryz.func13,Tryz.ntmps13
  go_wp2
  refine bodyPost_ret (results_tmp2 rfl _ _ _) rfl ?_
  exact .inl ⟨rfl,rfl⟩
 ·have z1:(decide ((268435456:Int)<(X:Int)))=false:=by simp;omega
  by_cases h2:268435456<Y
  ·have z2:(decide ((268435456:Int)<(Y:Int)))=true:=by simp;omega
   go_enter Tryz.func13,Tryz.ntmps13
   go_wp2
   refine bodyPost_ret (results_tmp2 rfl _ _ _) rfl ?_
   exact .inl ⟨rfl,rfl⟩
  ·have z2:(decide ((268435456:Int)<(Y:Int)))=false:=by simp;omega
   by_cases h3:268435456<Z
   ·have z3:(decide ((268435456:Int)<(Z:Int)))=true:=by simp;omega
    go_enter Tryz.func13,Tryz.ntmps13
    go_wp2
    refine bodyPost_ret (results_tmp2 rfl _ _ _) rfl ?_
    exact .inl ⟨rfl,rfl⟩
   ·have z3:(decide ((268435456:Int)<(Z:Int)))=false:=by simp;omega
    obtain ⟨c',tc1,tc2,c3,c4⟩:=next_c c c1 c2
    have HM1:=hide (made_any text who p c w ht (by omega) hwho p1 p2 c1 c2)
    have HM2:=hide (fun w' t=>made_any other who p c' w' t (by omega) hwho p1 p2 c3 c4)
    have HXY:=hide (show text.size≤268435456∧other.size≤268435456∧s.size≤268435456 by omega)
    clear c3 c4 c1 c2 p1 p2
    go_enter Tryz.func13,Tryz.ntmps13
    go_wp2_with fail
    refine HM1.out.mono ?_
    rintro e w1 ⟨fb,v,vb,l,d,rfl,_,a1,a3,am,ad,aR,ab1,at1⟩
    have HF1:=hide (show MdR text fb v vb l d w1 from ⟨a1,a3,am,ad,aR⟩)
    have HM3:=hide (HM2.out w1 at1)
    have HB1:=hide ab1
    clear HM1 HM2 a1 a3 am ad aR ab1 at1
    go_wp2_with fail
    refine HM3.out.mono ?_
    rintro e w2 ⟨gb,v',vb',l',d',rfl,_,a1,a3,am,ad,aR,ab2,at2⟩
    have HG2:=hide (show MdR other gb v' vb' l' d' w2 from ⟨a1,a3,am,ad,aR⟩)
    have HF2:=hide (HF1.out.after ab2)
    have HB2:=hide (HB1.out.trans (ab2.mono HB1.out.size))
    have HT2:=hide at2
    clear HM3 a1 a3 am ad aR ab2 at2 HF1 HB1
    go_wp2
    refine bodyPost_ret (results_tmp2 rfl _ _ _) rfl ?_
    have hb3:Below w2.heap.size w2 (w2.alloc (.cells #[.pointer (some ⟨fb,0,none⟩),.pointer (some ⟨gb,0,none⟩)] 22)):=(Below.refl _ _).alloc (Nat.le_refl _) _
    have hb4:=hb3.alloc (o:=.cells #[.slice (some ⟨w2.heap.size,0,none⟩) 2 2] 43) hb3.size
    have hB3:Blk (w2.alloc (.cells #[.pointer (some ⟨fb,0,none⟩),.pointer (some ⟨gb,0,none⟩)] 22)) w2.heap.size 22 [.pointer (some ⟨fb,0,none⟩),.pointer (some ⟨gb,0,none⟩)]:=Blk.new rfl rfl
    exact .inr ⟨HXY.out.1,HXY.out.2.1,HXY.out.2.2,_,w2.heap.size,fb,gb,v,vb,l,d,v',vb',l',d',rfl,Blk.new (Array.size_push ..).symm rfl,hB3.alloc _,HF2.out.after hb4,HG2.out.after hb4,HT2.out.after hb4,HB2.out.trans (hb4.mono HB2.out.size)⟩
end Go.Proofs.YtoifalcpfnacnaaGreatDoor
namespace Go.Proofs.YtoifalcpfnacnaaGreatDoor
open Go.ChangeShapes Go.WideShapes Go.ChangeAt Go.RowKit Go.Deep
theorem own:ownKnob Tryz.prog.godebug=none:=by kernel_rfl
theorem gH : Tryz.prog.globalNamed "strongbox/sha2.firstWords" = some 0 := by kernel_rfl
theorem gK : Tryz.prog.globalNamed "strongbox/sha2.roundWords" = some 1 := by kernel_rfl
theorem gHt:(Tryz.prog.globals[0]?).map (·.type)=some 169:=by kernel_rfl
theorem gKt:(Tryz.prog.globals[1]?).map (·.type)=some 187:=by kernel_rfl
theorem c8:Tryz.prog.cellsOf 169=8:=by kernel_rfl
theorem c64:Tryz.prog.cellsOf 187=64:=by kernel_rfl
theorem c32:Tryz.prog.cellsOf 150=1:=by kernel_rfl
theorem tabs2 {W : World} (h' : laidMet Tryz.prog [("strongbox/sha2.firstWords", Lib.tabData .u32 (Sha.H0.list.map fun (n : Nat) => (n : Int))), ("strongbox/sha2.roundWords", Lib.tabData .u32 (Sha.Kt.map fun (n : Nat) => (n : Int)))] W) : HTab W ∧ KTab W := by
 have t1:=Lib.tabIs_of_head gH gHt Tryz.underlying169 Tryz.underlying150 c32 c8 h'
 have t2:=Lib.tabIs_of_head gK gKt Tryz.underlying187 Tryz.underlying150 c32 c64 h'.tail
 refine ⟨fun i hi=>?_,fun i hi=>?_⟩
 ·have hl:i<Sha.H0.list.length:=hi
  rw[t1.cell gH i (by simpa using hl)]
  simp[Sha.wAt,List.getD,hl]
 ·have hl:i<Sha.Kt.length:=hi
  rw[t2.cell gK i (by simpa using hl)]
  simp[Sha.wAt,List.getD,hl]
def laidIn (ns:List Nat):Obj→Obj
 | .cells _ t frozen=>.cells (ns.map fun (n:Nat)=>Value.int .u32 (n:Int)).toArray t frozen
 | o=>o
def laidWorld (P:Program) (os:Os):World:=
 { World.holding P os ⟨#[],#[],[]⟩ with heap:=((World.holding P os ⟨#[],#[],[]⟩).heap.modify 0 (laidIn Sha.H0.list)).modify 1 (laidIn Sha.Kt) }
theorem open_text0 {H:Type} {enc:TypeId × Value→H} {P:Program} {t:TypeId} (ht:P.underlying t=some .string) {W:World} {r:Reach} {b0 base:Nat} {sp:Nat→Bool} {held:Bool} {v:Value} {d:DataW H} {ps:List MemPlace} (hval:Value.okWide P W r b0 t v) (hd:DataW.Trod enc P W base sp held t v d ps):
  ∃ s:ByteArray,v = .string s∧d = .lit (.string s.data.toList)∧ps=[]∧s.size≤maxLen:=by
 obtain ⟨s,rfl⟩:=okWide_string ht hval
 obtain ⟨fuel,hf⟩:=hd
 obtain ⟨s',h,hx,hs⟩:=DataW.trod_string ht hf
 simp[Value.cells] at h
 subst h
 simp only[Prod.mk.injEq] at hx
 exact ⟨s,rfl,hx.1,hx.2,hs⟩
theorem shut_text0 {H:Type} {enc:TypeId × Value→H} {P:Program} {t:TypeId} (ht:P.underlying t=some .string) {W:World} {base:Nat} {sp:Nat→Bool} {held:Bool} {s:ByteArray} (hs:s.size≤maxLen):DataW.Trod enc P W base sp held t (.string s) (.lit (.string s.data.toList)) []:=
 ⟨1,by simp[DataW.trod,Value.cells,ht,hs]⟩
set_option maxRecDepth 100000 in
theorem open_text {H:Type} {enc:TypeId × Value→H} {W:World} {r:Reach} {b0 base:Nat} {sp:Nat→Bool} {held:Bool} {v:Value} {d:DataW H} {ps:List MemPlace} (hval:Value.okWide Tryz.prog W r b0 9 v) (hd:DataW.Trod enc Tryz.prog W base sp held 9 v d ps):
  ∃ s:ByteArray,v = .string s∧d = .lit (.string s.data.toList)∧ps=[]∧s.size≤maxLen:=open_text0 Tryz.underlying9 hval hd
set_option maxRecDepth 100000 in
theorem shut_text {H:Type} {enc:TypeId × Value→H} {W:World} {base:Nat} {sp:Nat→Bool} {held:Bool} {s:ByteArray} (hs:s.size≤maxLen):DataW.Trod enc Tryz.prog W base sp held 9 (.string s) (.lit (.string s.data.toList)) []:=shut_text0 Tryz.underlying9 hs
end Go.Proofs.YtoifalcpfnacnaaGreatDoor
