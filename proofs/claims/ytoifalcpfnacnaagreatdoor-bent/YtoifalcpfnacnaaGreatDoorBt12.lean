import Derived.Deep.Cut
import Derived.Test.YtoifalcpfnacnaaGreatDoorRows
import Derived.Test.YtoifalcpfnacnaaGreatDoorCards
import Derived.Test.YtoifalcpfnacnaaGreatDoorTie
import Derived.ProofKit
import Derived.OpenShut
import Derived.Deep.Slices
import Derived.Deep.DeepHandedRow
import Derived.Lib.LaidTab
import Derived.SizedLaws
import Derived.Stop.LaidErr
import Derived.Carry
import Derived.ChangeSame
import Derived.Test.YtoifalcpfnacnaaGreatDoorBt11
namespace Go.Proofs.YtoifalcpfnacnaaGreatDoor
open Go.RowKit
structure FB (fb:Nat) (b:ByteArray) (T:Nat) (bl:List ByteArray) (fc:List Value) (w:World):Prop where
 file:Blk w fb 27 fc
 c3:fc[3]? = some (.string b)
 c4:fc[4]? = some (.int .i64 (T:Nat))
 t1:45≤T
 t2:T≤284
 tb:T+16≤b.size
 bb:b.size≤1000000000
 few:Few bl
 n1:1≤bl.length
 n2:bl.length≤268435457
 bx:∃ vb,fc[6]? = some vb∧Strs w vb bl
theorem FB.after {fb:Nat} {b:ByteArray} {T:Nat} {bl:List ByteArray} {fc:List Value} {w w':World} (h:FB fb b T bl fc w) (hb:Below w.heap.size w w'):FB fb b T bl fc w':=
 ⟨h.file.below hb h.file.lt,h.c3,h.c4,h.t1,h.t2,h.tb,h.bb,h.few,h.n1,h.n2,by obtain ⟨vb,h1,h2⟩:=h.bx;exact ⟨vb,h1,h2.after hb⟩⟩
def Fw (L:List ByteArray) (m:Nat):Prop:=∀ k,k<m→(L.getD k ⟨#[]⟩).size≤32∨(k+1=m∧(L.getD k ⟨#[]⟩).size≤268435456)
theorem Few.fw {L:List ByteArray} (h:Few L) (m:Nat):Fw L m:=fun k _=>.inl (h.at k)
theorem Few.take {L:List ByteArray} (h:Few L) (i:Nat):Few (L.take i):=fun x hx=>h x (List.mem_of_mem_take hx)
theorem Few.drop {L:List ByteArray} (h:Few L) (i:Nat):Few (L.drop i):=fun x hx=>h x (List.mem_of_mem_drop hx)
theorem Few.app {L M:List ByteArray} (h:Few L) (h2:Few M):Few (L++M):=fun x hx=>by
 rcases List.mem_append.1 hx with h1 | h1
 ·exact h x h1
 ·exact h2 x h1
theorem fw_snoc {L:List ByteArray} (h:Few L) {x:ByteArray} (hx:x.size≤268435456):Fw (L++[x]) (L.length+1):=by
 intro k hk
 rcases Nat.lt_or_ge k L.length with h1 | h1
 ·left
  rw[List.getD_eq_getElem?_getD,List.getElem?_append_left h1,←List.getD_eq_getElem?_getD]
  exact h.at k
 ·right
  have e:k=L.length:=by omega
  refine ⟨by omega,?_⟩
  rw[e,List.getD_eq_getElem?_getD,List.getElem?_append_right (Nat.le_refl _),Nat.sub_self]
  exact hx
theorem Row.ofTake {w:World} {g:Nat} {l:List ByteArray} {base n i:Nat} (h:Blk w g 9 (strV l)) (hb:base≤g) (hn:l.length=n) (hi:i≤n) (hl:n≤1099511627776):Row w base 9 1 (.slice (some ⟨g,0,none⟩) i n) i (strV (l.take i)):=by
 have e:strV (l.take i)=(strV l).take i:=by unfold strV;rw[List.map_take]
 refine ⟨by rw[strV_len,List.length_take,hn];omega,.inr ⟨g,n,strV l,rfl,hb,h.marked,hi,by unfold maxLen;omega,by rw[strV_len,hn];omega,?_⟩⟩
 rw[e,Nat.mul_one]
theorem step_append_strs {ops:Array Oper} {o:Oper} {a:Act} {w:World} {K:Act→World→Prop} {Q:Exit→Act→World→Prop} {E:Prop} (hgd:o.guard=none) (sl x:Operand)
  (ho:o.op = .call { callee:=.builtin .append,args:=#[sl,x],argTypes:=#[25,25] })
  (base:Nat) (v:Value) (n:Nat) (xs:List ByteArray) (hs:a.eval sl=v) (hown:Row w base 9 1 v n (strV xs))
  (ad:Addr) (m c:Nat) (news:List ByteArray) (hx:a.eval x = .slice (some ad) m c) (hl:news.length=m) (hn1:∀ j y,news[j]? = some y→w.cell? (ad.add j)=some (.string y)) (hn:n+m≤1099511627) (hbase:base≤w.heap.size)
  (h:∀ v' w',Row w' base 9 1 v' (n+m) (strV (xs++news))→w.grownBy w' v.ownBlock→(v'.ownBlock=v.ownBlock∨∃ g,v'.ownBlock=some g∧w.heap.size≤g)→K (a.put o.dst v') w'):
  if Region.wanted o (yielded ops a.tmps)=true then Oper.wp Tryz.prog o a w K Q else E:=by
 rw[if_pos (by simp[Region.wanted,hgd])]
 obtain ⟨i0,hi,hz0,hz1,hz2⟩:=info_parts infoStr
 refine wp_append_row sl x 25 ho i0 (.string ByteArray.empty) 16 Tryz.underlying25 hi hz0 hz1 hz2 rfl (by decide) v n (strV xs) hs hown ad m c (strV news) hx (by rw[strV_len,hl,Nat.mul_one]) ?_ (strV_one _) ?_ ?_ hbase ?_
 ·intro j u hj
  unfold strV at hj
  rw[List.getElem?_map] at hj
  obtain ⟨y,hy,rfl⟩:=Option.map_eq_some_iff.1 hj
  exact hn1 j y hy
 ·unfold maxLen;omega
 ·omega
 ·intro v' w' hr
  have e:strV xs++strV news=strV (xs++news):=by unfold strV;rw[List.map_append]
  rw[e] at hr
  exact h v' w' hr
def BeL (wL:World) (M:Nat) (vt vk:Value) (wr:World):Prop:=wr=wL∧∃ (t:ByteArray) (k:Nat),vt = .string t∧vk = .int .i64 (k:Nat)∧k≤M∧t.size≤400+32*k+(if k=M then 268435456 else 0)
set_option maxRecDepth 100000 in
set_option maxHeartbeats 40000000 in
theorem bended_any (fb gb:Nat) (b b':ByteArray) (T T':Nat) (bl bl':List ByteArray) (fc gc:List Value) (how p:Int) (s:ByteArray) (w:World) (F:FB fb b T bl fc w) (G:FB gb b' T' bl' gc w) (p1 : -9223372036854775808≤p) (p2:p≤9223372036854775807) (hs:s.size≤268435456)
  (hh:how=0∨how=1∨how=2∨how=3∨how=4∨how=5∨how=6∨how=7∨how=8∨how=9∨how=10∨how=11∨how=12)
  (HHO:∀ w',Below w.heap.size w w'→Calls Tryz.prog 42 #[.pointer (some ⟨fb,0,none⟩)] w' fun e w2=>∃ u L,e = .returned u∧Row w2 w'.heap.size 9 1 u L.length (strV L)∧Few L∧L.length≤268435458∧Below w'.heap.size w' w2):
  Calls Tryz.prog 14 #[.pointer (some ⟨fb,0,none⟩),.pointer (some ⟨gb,0,none⟩),.int .i64 how,.int .i64 p,.string s] w fun e w'=>∃ B:ByteArray,e = .returned (.string B)∧B.size≤34359738368∧Below w.heap.size w w':=by
 have c3:=F.file.cell F.c3
 have c4:=F.file.cell F.c4
 obtain ⟨N,hN⟩:∃ N:Nat,b.size=N:=⟨_,rfl⟩
 have htb:=F.tb
 have hbb:=F.bb
 have ht2:=F.t2
 rw[hN] at htb hbb
 obtain ⟨T2,hT2⟩:∃ T2:Nat,T+16=T2:=⟨_,rfl⟩
 have tT2:(T:Int)+16=(T2:Int):=by omega
 have jT2:(T2:Int)≤(N:Int):=by omega
 have jT1:(T:Int)≤(T2:Int):=by omega
 have jT3:(T:Int)≤(N:Int):=by omega
 have HPK:=hide (fun (m:Nat) w (h0:0<m) (h1:m≤1099511627776)=>kpick_any p m w p1 p2 h0 h1)
 have HF:=hide F
 have HG:=hide G
 have HH2:=hide HHO
 clear F G HHO
 go_enter Tryz.func14,Tryz.ntmps14
 go_wp2
 go_quiet (fail)
 go_wp2
 go_quiet (fail)
 generalize hw1:World.drewN (World.drewN w _) _=w1
 have F:FB fb b T bl fc w1:=by rw[←hw1];exact HF.out.after (below_drewN (below_drewN (Below.refl _ _) _) _)
 have G:FB gb b' T' bl' gc w1:=by rw[←hw1];exact HG.out.after (below_drewN (below_drewN (Below.refl _ _) _) _)
 have hb1:Below w.heap.size w w1:=by rw[←hw1];exact below_drewN (below_drewN (Below.refl _ _) _) _
 clear c3 c4 HF HG hw1
 obtain ⟨vb,hvb,hbx⟩:=F.bx
 have c6:=F.file.cell hvb
 have hfl:=F.file.lt
 obtain ⟨ao,cp,rfl,hsr⟩:=strs_src hbx
 obtain ⟨n,hn⟩:∃ n:Nat,bl.length=n:=⟨_,rfl⟩
 rw[hn] at c6 hsr
 have hn1:0<n:=by have:=F.n1;omega
 have hn2:n≤268435457:=by have:=F.n2;omega
 have hmk:=fun w=>make_strs n (by omega) w
 have HSP:=hide (strs_over bl n hn)
 have HSR:=hide hsr
 have HLN:=hide (show (strV bl).length=n by rw[strV_len,hn])
 have HN:=hide hn
 have HF:=hide F
 have HG:=hide G
 have HB1:=hide hb1
 clear F G hbx hsr hn hvb hb1
 have HPN:=hide (fun w=>HPK.out n w hn1 (by omega))
 go_wp2_with (refine wpList_copy_splice rfl (.tmp 50) (.tmp 54) 25 25 rfl 9 Tryz.underlying25 infoStr1 _ _ _ _ _ _ rfl rfl w1.heap.size 0 (List.replicate n (Value.string ByteArray.empty)) 9 ?_ (strV bl) ?_ ?_ ?_ (strV_one _) w1.heap.size w1 ?_ (Nat.le_refl _) ?_;exact Blk.new rfl rfl;(rw[HLN.out];exact (Nat.min_self n).symm);exact src_of HSR.out HLN.out;(rw[HLN.out];simp);exact (Below.refl _ _).alloc (Nat.le_refl _) _;intro w2 HB2 hbe2)
 refine (HPN.out _).mono ?_
 rintro e w3 ⟨rfl,rfl⟩
 have hB2:=HB2.out
 rw[HSP.out] at hB2
 have hi:=pickN_lt p n hn1
 have S2:=hide (show HoS w1 fb fc bl w3 from ⟨HF.out.file.below hbe2 hfl,hB2,hbe2⟩)
 generalize pickN p n=i at *
 clear hB2 HB2 hbe2 c6 HSR HSP HLN hmk HPN
 go_upto_region 8 with fail
 go_cut [66] from 59 (fun s66 wx=>wx=w3∧∃ bb:Bool,s66 = .bool bb∧(bb=true→0<s.size))
 case first=>
  by_cases h0:s.size=0
  ·have j0:¬ (0:Int)<(s.size:Int):=by omega
   go_wp2_with fail
   go_meet
   case rel=>exact ⟨rfl,false,rfl,fun h=>by cases h⟩
  ·have j0:(0:Int)<(s.size:Int):=by omega
   have j1:0<s.size:=by omega
   go_wp2_with fail
   go_meet
   case rel=>exact ⟨rfl,_,rfl,fun _=>j1⟩
 case rest=>
  obtain ⟨rfl,bb,rfl,hbb2⟩:=hcut
  go_upto_if 66 with fail
  go_cut [16] from 67 (fun s16 wx=>wx=wc∧∃ c:UInt8,s16 = .int .u8 ((c.toNat:Nat):Int))
  case first=>
   cases bb with
   | false=>
    go_wp2_with fail
    go_meet
    case rel=>exact ⟨rfl,1,rfl⟩
   | true=>
    have j1:=hbb2 rfl
    have j0:(0:Int)<(s.size:Int):=by omega
    go_wp2_with fail
    go_meet
    case rel=>exact ⟨rfl,_,rfl⟩
  case rest=>
   obtain ⟨rfl,c,rfl⟩:=hcut
   have hze1:(b.extract 0 T).size≤300:=by rw[ByteArray.size_extract];omega
   have hze2:(b.extract T T2).size≤16:=by rw[ByteArray.size_extract];omega
   have hze0:0<(b.extract 0 T).size:=by have:=HF.out.t1;rw[ByteArray.size_extract];omega
   generalize b.extract 0 T=tp at *
   generalize b.extract T T2=dw at *
   have S:=S2.out
   have hbw:Below w.heap.size w wc:=HB1.out.trans (S.be.mono HB1.out.size)
   have HBW:=hide hbw
   clear S hbw
   rcases hh with rfl | rfl | rfl | rfl | rfl | rfl | rfl | rfl | rfl | rfl | rfl | rfl | rfl
   ·have c3:=S2.out.file.cell HF.out.c3
    go_wp2
    go_ret
    exact ⟨b,rfl,by omega,HBW.out⟩
   ·have c3:=S2.out.file.cell HF.out.c3
    obtain ⟨N1,hN1⟩:∃ N1:Nat,N+1=N1:=⟨_,rfl⟩
    have tN1:(N:Int)+1=(N1:Int):=by omega
    have HPN:=hide (fun w=>HPK.out N1 w (by omega) (by omega))
    have hkl:=pickN_lt p N1 (by omega)
    generalize pickN p N1=k at *
    have jk:(k:Int)≤(N:Int):=by omega
    have hkb:k≤1000000000:=by omega
    have hN1b:N1≤1000000001:=by omega
    clear hN1 hkl
    go_wp2
    go_quiet ((go_at_call 15;exact Calls.quiet_of_same (HPN.out _)))
    go_wp2
    go_ret
    exact ⟨b.extract 0 k,rfl,by rw[ByteArray.size_extract];omega,below_drewN HBW.out _⟩
   ·have c3:=S2.out.file.cell HF.out.c3
    have HCG:=hide (fun w=>changed_any b p c w p1 p2 (by omega) (by omega))
    go_wp2_with fail
    refine (HCG.out _).mono ?_
    rintro e w4 ⟨r,rfl,hr,hb4⟩
    have HB4:=hide (HBW.out.trans (hb4.mono HBW.out.size))
    clear HCG hb4 c3
    go_wp2
    go_ret
    exact ⟨r,rfl,by omega,HB4.out⟩
   ·have c3:=S2.out.file.cell HF.out.c3
    go_wp2
    go_ret
    exact ⟨b++s,rfl,by rw[cat_size];omega,HBW.out⟩
   ·obtain ⟨i1,hi1⟩:∃ i1:Nat,i+1=i1:=⟨_,rfl⟩
    have ti1:(i:Int)+1=(i1:Int):=by omega
    have ji1:(i1:Int)≤(n:Int):=by omega
    have ji:(i:Int)≤(n:Int):=by omega
    have hi1n:i1≤n:=by omega
    have hrow:Row wc.drew w1.heap.size 9 1 (.slice (some ⟨w1.heap.size,0,none⟩) i n) i (strV (bl.take i)):=Row.ofTake S2.out.row (Nat.le_refl _) HN.out (by omega) (by omega)
    have HROW:=hide hrow
    have hnl:(bl.drop i1).length=n-i1:=by rw[List.length_drop,HN.out]
    have hnc:∀ j y,(bl.drop i1)[j]? = some y→wc.drew.cell? ((⟨w1.heap.size,i1,none⟩:Addr).add j)=some (.string y):=by
     intro j y hj
     rw[Addr.add_mid]
     rw[List.getElem?_drop] at hj
     refine S2.out.row.cell (i:=i1+j) ?_
     unfold strV
     rw[List.getElem?_map,hj]
     rfl
    have HNC:=hide (And.intro hnl hnc)
    have hsz:=S2.out.be.size
    clear hrow hnl hnc
    have hwr:IntKind.i64.wrap (i1:Int)=(i1:Int):=IntWalk.i64_in _ (by omega)
    have HZ:=hide (And.intro hze1 hze2)
    by_cases hni:n=i1
    ·subst hni
     go_wp2
     go_region
     go_wp2
     have hln:(bl.take i).length=i:=by rw[List.length_take,HN.out];omega
     obtain ⟨sv,hsv⟩:∃ x:Option Addr,some (⟨w1.heap.size,0,none⟩:Addr)=x:=⟨_,rfl⟩
     have hst:=Row.strs (show Row wc.drew w1.heap.size 9 1 (.slice (some ⟨w1.heap.size,0,none⟩) i n) (bl.take i).length (strV (bl.take i)) by rw[hln];exact HROW.out)
     rw[hsv] at hst ⊢
     have HST:=hide hst
     have HLM:=hide hln
     have HFW:=hide ((HF.out.few.take i).fw i)
     have HBL:=hide (show Below w.heap.size w wc.drew from HBW.out.trans ⟨rfl,rfl,rfl,Nat.le_refl _,fun _ _=>rfl⟩)
     have HMB:=hide (show i≤1000000000 by omega)
     clear hst hsv
     go_loopw [18,19] (fun vt vk wr=>BeL wc.drew (i) vt vk wr) (fun _ vk _=>i-(intOf vk).toNat)
     case atStart=>exact ⟨rfl,_,0,rfl,rfl,Nat.zero_le _,by have:=HZ.out;rw[cat_size];split <;> omega⟩
     case round=>
      obtain ⟨rfl,t,k,rfl,rfl,hk,ht⟩:=hrel
      by_cases hlt:k<i
      ·have jl:(k:Int)<((i:Nat):Int):=by omega
       obtain ⟨g0,o0,c0,hv0,hg0,e0⟩:=HST.out.at k (by rw[HLM.out];exact hlt)
       injection hv0 with hv0 hv0n hv0c
       clear hv0n hv0c
       subst hv0
       have hfx:=HFW.out k hlt
       generalize (bl.take i).getD k ⟨#[]⟩=x at *
       have HT:=hide (And.intro ht hfx)
       have HLT:=hide hlt
       have hMb:i≤1000000000:=HMB.out
       rw[if_neg (Nat.ne_of_lt hlt)] at ht
       have htb3:t.size≤34359738368:=by omega
       have hxz:x.size≤268435456:=by rcases hfx with h | ⟨_,h⟩ <;> omega
       have u1:¬ (9223372036854775807<t.size+x.size):=by omega
       clear ht hfx
       go_wp2
       go_roundw
       case rel=>
        have hlt:=HLT.out
        obtain ⟨h1,h2⟩:=HT.out
        rw[if_neg (Nat.ne_of_lt hlt)] at h1
        refine ⟨rfl,_,k+1,rfl,by go_num,hlt,?_⟩
        rw[cat_size]
        split
        ·rcases h2 with h2 | ⟨_,h2⟩ <;> omega
        ·rcases h2 with h2 | ⟨h3,_⟩ <;> omega
       case measure=>have:=HLT.out;simp[intOf];omega
      ·have jl:¬ (k:Int)<((i:Nat):Int):=by omega
       have hMb:i≤1000000000:=HMB.out
       go_wp2
       go_ret
       exact ⟨t,rfl,by split at ht <;> omega,HBL.out⟩
    ·have hni2:¬ n=i1:=hni
     go_wp2
     go_region_law (refine step_append_strs rfl (.tmp 112) (.tmp 116) rfl w1.heap.size (.slice (some ⟨w1.heap.size,0,none⟩) i n) i (bl.take i) (by kernel_rfl) HROW.out ⟨w1.heap.size,i1,none⟩ (n-i1) (n-i1) (bl.drop i1) (by kernel_rfl) HNC.out.1 HNC.out.2 (by omega) hsz ?_;intro v1 w5 hr1 hg1 hat1)
     go_wp2
     obtain ⟨sv,cv,rfl,_⟩:=Row.anyN hr1
     have hln:(bl.take i++bl.drop i1).length=i+(n-i1):=by rw[List.length_append,List.length_take,HNC.out.1,HN.out];omega
     rw[←hln] at hr1
     have hst:=Row.strs hr1
     rw[hln] at hst
     have HST:=hide hst
     have HLM:=hide hln
     have HFW:=hide (((HF.out.few.take i).app (HF.out.few.drop i1)).fw (i+(n-i1)))
     have hbd:Below w.heap.size w wc.drew:=HBW.out.trans ⟨rfl,rfl,rfl,Nat.le_refl _,fun _ _=>rfl⟩
     have HBL:=hide (hbd.trans (RowKit.Below.of_grown (w:=wc.drew) (show wc.drew.grownBy w5 (some w1.heap.size) from hg1) HB1.out.size hbd.size))
     have HMB:=hide (show i+(n-i1)≤1000000000 by omega)
     clear hr1 hg1 hat1 hst
     go_loopw [18,19] (fun vt vk wr=>BeL w5 (i+(n-i1)) vt vk wr) (fun _ vk _=>i+(n-i1)-(intOf vk).toNat)
     case atStart=>exact ⟨rfl,_,0,rfl,rfl,Nat.zero_le _,by have:=HZ.out;rw[cat_size];split <;> omega⟩
     case round=>
      obtain ⟨rfl,t,k,rfl,rfl,hk,ht⟩:=hrel
      by_cases hlt:k<i+(n-i1)
      ·have jl:(k:Int)<((i+(n-i1):Nat):Int):=by omega
       obtain ⟨g0,o0,c0,hv0,hg0,e0⟩:=HST.out.at k (by rw[HLM.out];exact hlt)
       injection hv0 with hv0 hv0n hv0c
       clear hv0n hv0c
       subst hv0
       have hfx:=HFW.out k hlt
       generalize (bl.take i++bl.drop i1).getD k ⟨#[]⟩=x at *
       have HT:=hide (And.intro ht hfx)
       have HLT:=hide hlt
       have hMb:i+(n-i1)≤1000000000:=HMB.out
       rw[if_neg (Nat.ne_of_lt hlt)] at ht
       have htb3:t.size≤34359738368:=by omega
       have hxz:x.size≤268435456:=by rcases hfx with h | ⟨_,h⟩ <;> omega
       have u1:¬ (9223372036854775807<t.size+x.size):=by omega
       clear ht hfx
       go_wp2
       go_roundw
       case rel=>
        have hlt:=HLT.out
        obtain ⟨h1,h2⟩:=HT.out
        rw[if_neg (Nat.ne_of_lt hlt)] at h1
        refine ⟨rfl,_,k+1,rfl,by go_num,hlt,?_⟩
        rw[cat_size]
        split
        ·rcases h2 with h2 | ⟨_,h2⟩ <;> omega
        ·rcases h2 with h2 | ⟨h3,_⟩ <;> omega
       case measure=>have:=HLT.out;simp[intOf];omega
      ·have jl:¬ (k:Int)<((i+(n-i1):Nat):Int):=by omega
       have hMb:i+(n-i1)≤1000000000:=HMB.out
       go_wp2
       go_ret
       exact ⟨t,rfl,by split at ht <;> omega,HBL.out⟩
   ·obtain ⟨vb,hvb,hbx⟩:=(HF.out.after S2.out.be).bx
    have c6:=S2.out.file.cell hvb
    obtain ⟨gx,ox,cx,hv,hgx,ei⟩:=hbx.at i (by rw[HN.out];exact hi)
    subst hv
    rw[HN.out] at c6
    have hxf:=HF.out.few.at i
    generalize bl.getD i ⟨#[]⟩=x at *
    have HZ:=hide (And.intro hze1 hze2)
    have hR8:Row wc w1.heap.size 9 1 (.slice (some ⟨w1.heap.size,0,none⟩) n n) n (strV bl):=Row.ofStrs S2.out.row (Nat.le_refl _) HN.out (by omega)
    have HR8:=hide hR8
    have hsz:=S2.out.be.size
    have HXF:=hide hxf
    clear hR8 hbx hvb hxf
    go_wp2_with (at_builtin;refine wpList_append_strB rfl (.tmp 120) (.tmp 128) rfl w1.heap.size _ n _ rfl (HR8.out.alloc _) wc.heap.size _ rfl (World.cell?_alloc_at _ _ _ _ rfl) ?_ ?_ ?_;omega;(simp;omega);intro v1 w5 hr1 hg1 hat1)
    obtain ⟨sv,cv,rfl,_⟩:=Row.anyN hr1
    have hln:(bl++[x]).length=n+1:=by rw[List.length_append,HN.out];rfl
    rw[←hln] at hr1
    have hst:=Row.strs hr1
    rw[hln] at hst
    have HST:=hide hst
    have HLM:=hide hln
    have HFW:=hide ((HF.out.few.snoc HXF.out).fw (n+1))
    have HBL:=hide (HB1.out.trans ((Below.grown (S2.out.be.alloc hsz _) hg1 (by simp;omega) (fun k hk=>(HR8.out.lt k hk).1)).mono HB1.out.size))
    have HMB:=hide (show n+1≤1000000000 by omega)
    clear hr1 hg1 hat1 hst
    go_loopw [18,19] (fun vt vk wr=>BeL w5 (n+1) vt vk wr) (fun _ vk _=>n+1-(intOf vk).toNat)
    case atStart=>exact ⟨rfl,_,0,rfl,rfl,Nat.zero_le _,by have:=HZ.out;rw[cat_size];split <;> omega⟩
    case round=>
     obtain ⟨rfl,t,k,rfl,rfl,hk,ht⟩:=hrel
     by_cases hlt:k<n+1
     ·have jl:(k:Int)<((n+1:Nat):Int):=by omega
      obtain ⟨g0,o0,c0,hv0,hg0,e0⟩:=HST.out.at k (by rw[HLM.out];exact hlt)
      injection hv0 with hv0 hv0n hv0c
      clear hv0n hv0c
      subst hv0
      have hfx:=HFW.out k hlt
      generalize (bl++[x]).getD k ⟨#[]⟩=x at *
      have HT:=hide (And.intro ht hfx)
      have HLT:=hide hlt
      have hMb:n+1≤1000000000:=HMB.out
      rw[if_neg (Nat.ne_of_lt hlt)] at ht
      have htb3:t.size≤34359738368:=by omega
      have hxz:x.size≤268435456:=by rcases hfx with h | ⟨_,h⟩ <;> omega
      have u1:¬ (9223372036854775807<t.size+x.size):=by omega
      clear ht hfx
      go_wp2
      go_roundw
      case rel=>
       have hlt:=HLT.out
       obtain ⟨h1,h2⟩:=HT.out
       rw[if_neg (Nat.ne_of_lt hlt)] at h1
       refine ⟨rfl,_,k+1,rfl,by go_num,hlt,?_⟩
       rw[cat_size]
       split
       ·rcases h2 with h2 | ⟨_,h2⟩ <;> omega
       ·rcases h2 with h2 | ⟨h3,_⟩ <;> omega
      case measure=>have:=HLT.out;simp[intOf];omega
     ·have jl:¬ (k:Int)<((n+1:Nat):Int):=by omega
      have hMb:n+1≤1000000000:=HMB.out
      go_wp2
      go_ret
      exact ⟨t,rfl,by split at ht <;> omega,HBL.out⟩
   ·obtain ⟨vb,hvb,hbx⟩:=(HF.out.after S2.out.be).bx
    have c6:=S2.out.file.cell hvb
    obtain ⟨gx,ox,cx,hv,hgx,ei⟩:=hbx.at i (by rw[HN.out];exact hi)
    subst hv
    rw[HN.out] at c6
    obtain ⟨j,hj⟩:∃ j:Nat,j=(i+1)%n:=⟨_,rfl⟩
    have hjn:j<n:=by rw[hj];exact Nat.mod_lt _ hn1
    have tj2:((i:Int)+1)%(n:Int)=(j:Int):=by rw[hj];exact (Int.natCast_emod (i+1) n).symm
    have tj1:((i:Int)+1).tmod (n:Int)=(j:Int):=by rw[Int.tmod_eq_emod_of_nonneg (by omega)];exact tj2
    clear hj
    have zn:((n:Int)==0)=false:=beq_eq_false_iff_ne.2 (by omega)
    obtain ⟨g',o',c',hv',hg',ej⟩:=hbx.at j (by rw[HN.out];exact hjn)
    injection hv' with hv1 _ _
    injection hv1 with hv1
    injection hv1 with hv1 hv2 _
    subst hv1
    subst hv2
    have hfi:=HF.out.few.at i
    have hfj:=HF.out.few.at j
    generalize bl.getD i ⟨#[]⟩=xi at *
    generalize bl.getD j ⟨#[]⟩=xj at *
    have ji:(i:Int)<(n:Int):=by omega
    have jj:(j:Int)<(n:Int):=by omega
    obtain ⟨y1,hy1⟩:=S2.out.at i (by rw[HN.out];exact hi)
    have hfz:=S2.out.row.frozen i
    have hgx1:gx<w1.heap.size:=by
     obtain ⟨vb1,hvb1,hbx1⟩:=HF.out.bx
     rw[hvb] at hvb1
     injection hvb1 with hvb1
     exact hbx1.blt gx ox _ cx (by rw[←hvb1]) (by rw[HN.out];exact hn1)
    have HZ:=hide (And.intro hze1 hze2)
    go_upto_region 26 with fail
    have S3:=hide (S2.out.set hfl i xj)
    generalize hw5:wc.setCell ⟨w1.heap.size,i,none⟩ (.string xj)=w5 at *
    have hx5:=S3.out.file.cell hvb
    rw[HN.out] at hx5
    have hei5:w5.cell? ⟨gx,ox+i,none⟩=some (.string xi):=by
     rw[←hw5,World.cell?_setCell_far _ ⟨w1.heap.size,i,none⟩ ⟨gx,ox+i,none⟩ _ (Nat.ne_of_gt hgx1)]
     exact ei
    obtain ⟨y2,hy2⟩:=S3.out.at j (by rw[List.length_set,HN.out];exact hjn)
    have hfz2:=S3.out.row.frozen j
    have S4:=hide (S3.out.set hfl j xi)
    clear c6 ei ej hy1 hfz hw5
    go_wp2
    have HLM:=hide (show ((bl.set i xj).set j xi).length=n by rw[List.length_set,List.length_set,HN.out])
    have HFW:=hide (((HF.out.few.set i hfj).set j hfi).fw n)
    have HRW:=hide S4.out.row
    have HBL:=hide (HB1.out.trans (S4.out.be.mono HB1.out.size))
    clear S4 S3 hy2 hfz2 hx5 hei5
    generalize w5.setCell ⟨w1.heap.size,j,none⟩ (.string xi)=w6 at *
    obtain ⟨sv,hsv⟩:∃ x:Option Addr,some (⟨w1.heap.size,0,none⟩:Addr)=x:=⟨_,rfl⟩
    have hst:=Row.strs (show Row w6 w1.heap.size 9 1 (.slice (some ⟨w1.heap.size,0,none⟩) n n) ((bl.set i xj).set j xi).length (strV ((bl.set i xj).set j xi)) by rw[HLM.out];exact Row.ofStrs HRW.out (Nat.le_refl _) HLM.out (by omega))
    rw[hsv] at hst ⊢
    have HST:=hide hst
    have HMB:=hide (show n≤1000000000 by omega)
    clear hst hsv
    go_loopw [18,19] (fun vt vk wr=>BeL w6 (n) vt vk wr) (fun _ vk _=>n-(intOf vk).toNat)
    case atStart=>exact ⟨rfl,_,0,rfl,rfl,Nat.zero_le _,by have:=HZ.out;rw[cat_size];split <;> omega⟩
    case round=>
     obtain ⟨rfl,t,k,rfl,rfl,hk,ht⟩:=hrel
     by_cases hlt:k<n
     ·have jl:(k:Int)<((n:Nat):Int):=by omega
      obtain ⟨g0,o0,c0,hv0,hg0,e0⟩:=HST.out.at k (by rw[HLM.out];exact hlt)
      injection hv0 with hv0 hv0n hv0c
      clear hv0n hv0c
      subst hv0
      have hfx:=HFW.out k hlt
      generalize ((bl.set i xj).set j xi).getD k ⟨#[]⟩=x at *
      have HT:=hide (And.intro ht hfx)
      have HLT:=hide hlt
      have hMb:n≤1000000000:=HMB.out
      rw[if_neg (Nat.ne_of_lt hlt)] at ht
      have htb3:t.size≤34359738368:=by omega
      have hxz:x.size≤268435456:=by rcases hfx with h | ⟨_,h⟩ <;> omega
      have u1:¬ (9223372036854775807<t.size+x.size):=by omega
      clear ht hfx
      go_wp2
      go_roundw
      case rel=>
       have hlt:=HLT.out
       obtain ⟨h1,h2⟩:=HT.out
       rw[if_neg (Nat.ne_of_lt hlt)] at h1
       refine ⟨rfl,_,k+1,rfl,by go_num,hlt,?_⟩
       rw[cat_size]
       split
       ·rcases h2 with h2 | ⟨_,h2⟩ <;> omega
       ·rcases h2 with h2 | ⟨h3,_⟩ <;> omega
      case measure=>have:=HLT.out;simp[intOf];omega
     ·have jl:¬ (k:Int)<((n:Nat):Int):=by omega
      have hMb:n≤1000000000:=HMB.out
      go_wp2
      go_ret
      exact ⟨t,rfl,by split at ht <;> omega,HBL.out⟩
   ·have G3:=HG.out.after S2.out.be
    obtain ⟨vg,hvg,hgx⟩:=G3.bx
    have c6:=G3.file.cell hvg
    obtain ⟨n',hn'⟩:∃ n':Nat,bl'.length=n':=⟨_,rfl⟩
    have hn1':0<n':=by have:=G3.n1;omega
    have hn2':n'≤268435457:=by have:=G3.n2;omega
    have HPN:=hide (fun w=>HPK.out n' w hn1' (by omega))
    have hk:=pickN_lt p n' hn1'
    generalize pickN p n'=k at *
    obtain ⟨gx,ox,cx,hv,hgxl,ek⟩:=hgx.at k (by rw[hn'];exact hk)
    subst hv
    rw[hn'] at c6
    have hxf:=G3.few.at k
    generalize bl'.getD k ⟨#[]⟩=x at *
    have hgl:=G3.file.lt
    have hgl1:gb<w1.heap.size:=HG.out.file.lt
    have hgx1:gx<w1.heap.size:=by
     obtain ⟨vg1,hvg1,hbx1⟩:=HG.out.bx
     rw[hvg] at hvg1
     injection hvg1 with hvg1
     exact hbx1.blt gx ox _ cx (by rw[←hvg1]) (by rw[hn'];exact hn1')
    have ji:(i:Int)<(n:Int):=by omega
    have jk:(k:Int)<(n':Int):=by omega
    obtain ⟨y1,hy1⟩:=S2.out.at i (by rw[HN.out];exact hi)
    have hfz:=S2.out.row.frozen i
    have hne1:w1.heap.size≠gb:=Nat.ne_of_gt hgl1
    have hne2:w1.heap.size≠gx:=Nat.ne_of_gt hgx1
    have S3:=hide (S2.out.set hfl i x)
    have HXF:=hide hxf
    have c6D:wc.drew.cell? ⟨gb,6,none⟩=some (.slice (some ⟨gx,ox,none⟩) n' cx):=c6
    have ekD:wc.drew.cell? ⟨gx,ox+k,none⟩=some (.string x):=ek
    have c6S:(wc.setCell ⟨w1.heap.size,i,none⟩ (.string x)).drew.cell? ⟨gb,6,none⟩=some (.slice (some ⟨gx,ox,none⟩) n' cx):=(World.cell?_setCell_far _ ⟨w1.heap.size,i,none⟩ ⟨gb,6,none⟩ _ hne1).trans c6
    have ekS:(wc.setCell ⟨w1.heap.size,i,none⟩ (.string x)).drew.cell? ⟨gx,ox+k,none⟩=some (.string x):=(World.cell?_setCell_far _ ⟨w1.heap.size,i,none⟩ ⟨gx,ox+k,none⟩ _ hne2).trans ek
    have HZ:=hide (And.intro hze1 hze2)
    clear G3 hgx hvg hxf hn'
    go_wp2
    go_region_held3 (fun w'=>w'.cell? ⟨gb,6,none⟩=some (.slice (some ⟨gx,ox,none⟩) n' cx)∧w'.cell? ⟨gx,ox+k,none⟩=some (.string x)) (refine ⟨?_,?_⟩ <;> assumption) ((go_at_call 15;refine (HPN.out _).mono ?_;rintro e w5 ⟨rfl,rfl⟩))
    rename_i hH
    clear hH
    go_wp2
    have HLM:=hide (show (bl.set i x).length=n by rw[List.length_set,HN.out])
    have HFW:=hide ((HF.out.few.set i HXF.out).fw n)
    have HRW:=hide (show Blk (wc.setCell ⟨w1.heap.size,i,none⟩ (.string x)).drew w1.heap.size 9 (strV (bl.set i x)) from S3.out.row)
    have HBL:=hide (show Below w.heap.size w (wc.setCell ⟨w1.heap.size,i,none⟩ (.string x)).drew from (HB1.out.trans (S3.out.be.mono HB1.out.size)).trans ⟨rfl,rfl,rfl,Nat.le_refl _,fun _ _=>rfl⟩)
    clear c6S ekS S3
    generalize (wc.setCell ⟨w1.heap.size,i,none⟩ (.string x)).drew=w6 at *
    obtain ⟨sv,hsv⟩:∃ x:Option Addr,some (⟨w1.heap.size,0,none⟩:Addr)=x:=⟨_,rfl⟩
    have hst:=Row.strs (show Row w6 w1.heap.size 9 1 (.slice (some ⟨w1.heap.size,0,none⟩) n n) (bl.set i x).length (strV (bl.set i x)) by rw[HLM.out];exact Row.ofStrs HRW.out (Nat.le_refl _) HLM.out (by omega))
    rw[hsv] at hst ⊢
    have HST:=hide hst
    have HMB:=hide (show n≤1000000000 by omega)
    clear hst hsv
    go_loopw [18,19] (fun vt vk wr=>BeL w6 (n) vt vk wr) (fun _ vk _=>n-(intOf vk).toNat)
    case atStart=>exact ⟨rfl,_,0,rfl,rfl,Nat.zero_le _,by have:=HZ.out;rw[cat_size];split <;> omega⟩
    case round=>
     obtain ⟨rfl,t,k,rfl,rfl,hk,ht⟩:=hrel
     by_cases hlt:k<n
     ·have jl:(k:Int)<((n:Nat):Int):=by omega
      obtain ⟨g0,o0,c0,hv0,hg0,e0⟩:=HST.out.at k (by rw[HLM.out];exact hlt)
      injection hv0 with hv0 hv0n hv0c
      clear hv0n hv0c
      subst hv0
      have hfx:=HFW.out k hlt
      generalize (bl.set i x).getD k ⟨#[]⟩=x at *
      have HT:=hide (And.intro ht hfx)
      have HLT:=hide hlt
      have hMb:n≤1000000000:=HMB.out
      rw[if_neg (Nat.ne_of_lt hlt)] at ht
      have htb3:t.size≤34359738368:=by omega
      have hxz:x.size≤268435456:=by rcases hfx with h | ⟨_,h⟩ <;> omega
      have u1:¬ (9223372036854775807<t.size+x.size):=by omega
      clear ht hfx
      go_wp2
      go_roundw
      case rel=>
       have hlt:=HLT.out
       obtain ⟨h1,h2⟩:=HT.out
       rw[if_neg (Nat.ne_of_lt hlt)] at h1
       refine ⟨rfl,_,k+1,rfl,by go_num,hlt,?_⟩
       rw[cat_size]
       split
       ·rcases h2 with h2 | ⟨_,h2⟩ <;> omega
       ·rcases h2 with h2 | ⟨h3,_⟩ <;> omega
      case measure=>have:=HLT.out;simp[intOf];omega
     ·have jl:¬ (k:Int)<((n:Nat):Int):=by omega
      have hMb:n≤1000000000:=HMB.out
      go_wp2
      go_ret
      exact ⟨t,rfl,by split at ht <;> omega,HBL.out⟩
   ·have ji:(i:Int)≤(n:Int):=by omega
    have HZ:=hide (And.intro hze1 hze2)
    have hR8:Row wc w1.heap.size 9 1 (.slice (some ⟨w1.heap.size,0,none⟩) i n) i (strV (bl.take i)):=Row.ofTake S2.out.row (Nat.le_refl _) HN.out (by omega) (by omega)
    have HR8:=hide hR8
    have hsz:=S2.out.be.size
    clear hR8
    go_wp2_with (at_builtin;refine wpList_append_strB rfl (.tmp 179) (.tmp 181) rfl w1.heap.size _ i _ rfl (HR8.out.alloc _) wc.heap.size _ rfl (World.cell?_alloc_at _ _ _ _ rfl) ?_ ?_ ?_;omega;(simp;omega);intro v1 w5 hr1 hg1 hat1)
    obtain ⟨sv,cv,rfl,_⟩:=Row.anyN hr1
    have htl:(bl.take i).length=i:=by rw[List.length_take,HN.out];omega
    have hln:(bl.take i++[s]).length=i+1:=by rw[List.length_append,htl];rfl
    rw[←hln] at hr1
    have hst:=Row.strs hr1
    rw[hln] at hst
    have HST:=hide hst
    have HLM:=hide hln
    have hfw:=fw_snoc (HF.out.few.take i) hs
    rw[htl] at hfw
    have HFW:=hide hfw
    have HBL:=hide (HB1.out.trans ((Below.grown (S2.out.be.alloc hsz _) hg1 (by simp;omega) (fun k hk=>(HR8.out.lt k hk).1)).mono HB1.out.size))
    have HMB:=hide (show i+1≤1000000000 by omega)
    clear hr1 hg1 hat1 hst hfw
    go_loopw [18,19] (fun vt vk wr=>BeL w5 (i+1) vt vk wr) (fun _ vk _=>i+1-(intOf vk).toNat)
    case atStart=>exact ⟨rfl,_,0,rfl,rfl,Nat.zero_le _,by have:=HZ.out;rw[cat_size];split <;> omega⟩
    case round=>
     obtain ⟨rfl,t,k,rfl,rfl,hk,ht⟩:=hrel
     by_cases hlt:k<i+1
     ·have jl:(k:Int)<((i+1:Nat):Int):=by omega
      obtain ⟨g0,o0,c0,hv0,hg0,e0⟩:=HST.out.at k (by rw[HLM.out];exact hlt)
      injection hv0 with hv0 hv0n hv0c
      clear hv0n hv0c
      subst hv0
      have hfx:=HFW.out k hlt
      generalize (bl.take i++[s]).getD k ⟨#[]⟩=x at *
      have HT:=hide (And.intro ht hfx)
      have HLT:=hide hlt
      have hMb:i+1≤1000000000:=HMB.out
      rw[if_neg (Nat.ne_of_lt hlt)] at ht
      have htb3:t.size≤34359738368:=by omega
      have hxz:x.size≤268435456:=by rcases hfx with h | ⟨_,h⟩ <;> omega
      have u1:¬ (9223372036854775807<t.size+x.size):=by omega
      clear ht hfx
      go_wp2
      go_roundw
      case rel=>
       have hlt:=HLT.out
       obtain ⟨h1,h2⟩:=HT.out
       rw[if_neg (Nat.ne_of_lt hlt)] at h1
       refine ⟨rfl,_,k+1,rfl,by go_num,hlt,?_⟩
       rw[cat_size]
       split
       ·rcases h2 with h2 | ⟨_,h2⟩ <;> omega
       ·rcases h2 with h2 | ⟨h3,_⟩ <;> omega
      case measure=>have:=HLT.out;simp[intOf];omega
     ·have jl:¬ (k:Int)<((i+1:Nat):Int):=by omega
      have hMb:i+1≤1000000000:=HMB.out
      go_wp2
      go_ret
      exact ⟨t,rfl,by split at ht <;> omega,HBL.out⟩
   ·have c3:=(HG.out.after S2.out.be).file.cell HG.out.c3
    have c4:=(HG.out.after S2.out.be).file.cell HG.out.c4
    obtain ⟨N',hN'⟩:∃ N:Nat,b'.size=N:=⟨_,rfl⟩
    have htb':=HG.out.tb
    have hbb':=HG.out.bb
    have ht2':=HG.out.t2
    rw[hN'] at htb' hbb'
    obtain ⟨T2',hT2'⟩:∃ T2:Nat,T'+16=T2:=⟨_,rfl⟩
    have tT2':(T':Int)+16=(T2':Int):=by omega
    have jT2':(T2':Int)≤(N':Int):=by omega
    have jT1':(T':Int)≤(T2':Int):=by omega
    have jT3':(T':Int)≤(N':Int):=by omega
    have hze3:(b'.extract T' T2').size≤16:=by rw[ByteArray.size_extract];omega
    go_wp2
    go_quiet (fail)
    generalize b'.extract T' T2'=dw' at *
    have HZ:=hide (And.intro hze1 hze3)
    go_wp2
    generalize hw6:World.drewN wc _=w6
    have HLM:=HN
    have HFW:=hide (HF.out.few.fw n)
    have HRW:Hid (Blk w6 w1.heap.size 9 (strV bl)):=hide (by rw[←hw6];exact S2.out.row.drewN _)
    have HBL:Hid (Below w.heap.size w w6):=hide (by rw[←hw6];exact below_drewN HBW.out _)
    clear hw6
    obtain ⟨sv,hsv⟩:∃ x:Option Addr,some (⟨w1.heap.size,0,none⟩:Addr)=x:=⟨_,rfl⟩
    have hst:=Row.strs (show Row w6 w1.heap.size 9 1 (.slice (some ⟨w1.heap.size,0,none⟩) n n) (bl).length (strV (bl)) by rw[HLM.out];exact Row.ofStrs HRW.out (Nat.le_refl _) HLM.out (by omega))
    rw[hsv] at hst ⊢
    have HST:=hide hst
    have HMB:=hide (show n≤1000000000 by omega)
    clear hst hsv
    go_loopw [18,19] (fun vt vk wr=>BeL w6 (n) vt vk wr) (fun _ vk _=>n-(intOf vk).toNat)
    case atStart=>exact ⟨rfl,_,0,rfl,rfl,Nat.zero_le _,by have:=HZ.out;rw[cat_size];split <;> omega⟩
    case round=>
     obtain ⟨rfl,t,k,rfl,rfl,hk,ht⟩:=hrel
     by_cases hlt:k<n
     ·have jl:(k:Int)<((n:Nat):Int):=by omega
      obtain ⟨g0,o0,c0,hv0,hg0,e0⟩:=HST.out.at k (by rw[HLM.out];exact hlt)
      injection hv0 with hv0 hv0n hv0c
      clear hv0n hv0c
      subst hv0
      have hfx:=HFW.out k hlt
      generalize (bl).getD k ⟨#[]⟩=x at *
      have HT:=hide (And.intro ht hfx)
      have HLT:=hide hlt
      have hMb:n≤1000000000:=HMB.out
      rw[if_neg (Nat.ne_of_lt hlt)] at ht
      have htb3:t.size≤34359738368:=by omega
      have hxz:x.size≤268435456:=by rcases hfx with h | ⟨_,h⟩ <;> omega
      have u1:¬ (9223372036854775807<t.size+x.size):=by omega
      clear ht hfx
      go_wp2
      go_roundw
      case rel=>
       have hlt:=HLT.out
       obtain ⟨h1,h2⟩:=HT.out
       rw[if_neg (Nat.ne_of_lt hlt)] at h1
       refine ⟨rfl,_,k+1,rfl,by go_num,hlt,?_⟩
       rw[cat_size]
       split
       ·rcases h2 with h2 | ⟨_,h2⟩ <;> omega
       ·rcases h2 with h2 | ⟨h3,_⟩ <;> omega
      case measure=>have:=HLT.out;simp[intOf];omega
     ·have jl:¬ (k:Int)<((n:Nat):Int):=by omega
      have hMb:n≤1000000000:=HMB.out
      go_wp2
      go_ret
      exact ⟨t,rfl,by split at ht <;> omega,HBL.out⟩
   ·have c3:=(HG.out.after S2.out.be).file.cell HG.out.c3
    have c4:=(HG.out.after S2.out.be).file.cell HG.out.c4
    obtain ⟨N',hN'⟩:∃ N:Nat,b'.size=N:=⟨_,rfl⟩
    have htb':=HG.out.tb
    have hbb':=HG.out.bb
    have ht2':=HG.out.t2
    rw[hN'] at htb' hbb'
    obtain ⟨T2',hT2'⟩:∃ T2:Nat,T'+16=T2:=⟨_,rfl⟩
    have tT2':(T':Int)+16=(T2':Int):=by omega
    have jT2':(T2':Int)≤(N':Int):=by omega
    have jT1':(T':Int)≤(T2':Int):=by omega
    have jT3':(T':Int)≤(N':Int):=by omega
    have hze3:(b'.extract 0 T').size≤300:=by rw[ByteArray.size_extract];omega
    go_wp2
    go_quiet (fail)
    generalize b'.extract 0 T'=tp' at *
    have HZ:=hide (And.intro hze3 hze2)
    go_wp2
    generalize hw6:World.drewN wc _=w6
    have HLM:=HN
    have HFW:=hide (HF.out.few.fw n)
    have HRW:Hid (Blk w6 w1.heap.size 9 (strV bl)):=hide (by rw[←hw6];exact S2.out.row.drewN _)
    have HBL:Hid (Below w.heap.size w w6):=hide (by rw[←hw6];exact below_drewN HBW.out _)
    clear hw6
    obtain ⟨sv,hsv⟩:∃ x:Option Addr,some (⟨w1.heap.size,0,none⟩:Addr)=x:=⟨_,rfl⟩
    have hst:=Row.strs (show Row w6 w1.heap.size 9 1 (.slice (some ⟨w1.heap.size,0,none⟩) n n) (bl).length (strV (bl)) by rw[HLM.out];exact Row.ofStrs HRW.out (Nat.le_refl _) HLM.out (by omega))
    rw[hsv] at hst ⊢
    have HST:=hide hst
    have HMB:=hide (show n≤1000000000 by omega)
    clear hst hsv
    go_loopw [18,19] (fun vt vk wr=>BeL w6 (n) vt vk wr) (fun _ vk _=>n-(intOf vk).toNat)
    case atStart=>exact ⟨rfl,_,0,rfl,rfl,Nat.zero_le _,by have:=HZ.out;rw[cat_size];split <;> omega⟩
    case round=>
     obtain ⟨rfl,t,k,rfl,rfl,hk,ht⟩:=hrel
     by_cases hlt:k<n
     ·have jl:(k:Int)<((n:Nat):Int):=by omega
      obtain ⟨g0,o0,c0,hv0,hg0,e0⟩:=HST.out.at k (by rw[HLM.out];exact hlt)
      injection hv0 with hv0 hv0n hv0c
      clear hv0n hv0c
      subst hv0
      have hfx:=HFW.out k hlt
      generalize (bl).getD k ⟨#[]⟩=x at *
      have HT:=hide (And.intro ht hfx)
      have HLT:=hide hlt
      have hMb:n≤1000000000:=HMB.out
      rw[if_neg (Nat.ne_of_lt hlt)] at ht
      have htb3:t.size≤34359738368:=by omega
      have hxz:x.size≤268435456:=by rcases hfx with h | ⟨_,h⟩ <;> omega
      have u1:¬ (9223372036854775807<t.size+x.size):=by omega
      clear ht hfx
      go_wp2
      go_roundw
      case rel=>
       have hlt:=HLT.out
       obtain ⟨h1,h2⟩:=HT.out
       rw[if_neg (Nat.ne_of_lt hlt)] at h1
       refine ⟨rfl,_,k+1,rfl,by go_num,hlt,?_⟩
       rw[cat_size]
       split
       ·rcases h2 with h2 | ⟨_,h2⟩ <;> omega
       ·rcases h2 with h2 | ⟨h3,_⟩ <;> omega
      case measure=>have:=HLT.out;simp[intOf];omega
     ·have jl:¬ (k:Int)<((n:Nat):Int):=by omega
      have hMb:n≤1000000000:=HMB.out
      go_wp2
      go_ret
      exact ⟨t,rfl,by split at ht <;> omega,HBL.out⟩
   ·have HCG:=hide (fun w=>changed_any tp p c w p1 p2 hze0 (by omega))
    go_wp2_with fail
    refine (HCG.out _).mono ?_
    rintro e w6 ⟨r,rfl,hr,hb4⟩
    have HLM:=HN
    have HFW:=hide (HF.out.few.fw n)
    have HRW:=hide (S2.out.after hb4).row
    have HBL:=hide (HBW.out.trans (hb4.mono HBW.out.size))
    have HZ:=hide (show r.size≤300∧dw.size≤16 from ⟨by omega,hze2⟩)
    clear HCG hb4
    go_wp2
    obtain ⟨sv,hsv⟩:∃ x:Option Addr,some (⟨w1.heap.size,0,none⟩:Addr)=x:=⟨_,rfl⟩
    have hst:=Row.strs (show Row w6 w1.heap.size 9 1 (.slice (some ⟨w1.heap.size,0,none⟩) n n) (bl).length (strV (bl)) by rw[HLM.out];exact Row.ofStrs HRW.out (Nat.le_refl _) HLM.out (by omega))
    rw[hsv] at hst ⊢
    have HST:=hide hst
    have HMB:=hide (show n≤1000000000 by omega)
    clear hst hsv
    go_loopw [18,19] (fun vt vk wr=>BeL w6 (n) vt vk wr) (fun _ vk _=>n-(intOf vk).toNat)
    case atStart=>exact ⟨rfl,_,0,rfl,rfl,Nat.zero_le _,by have:=HZ.out;rw[cat_size];split <;> omega⟩
    case round=>
     obtain ⟨rfl,t,k,rfl,rfl,hk,ht⟩:=hrel
     by_cases hlt:k<n
     ·have jl:(k:Int)<((n:Nat):Int):=by omega
      obtain ⟨g0,o0,c0,hv0,hg0,e0⟩:=HST.out.at k (by rw[HLM.out];exact hlt)
      injection hv0 with hv0 hv0n hv0c
      clear hv0n hv0c
      subst hv0
      have hfx:=HFW.out k hlt
      generalize (bl).getD k ⟨#[]⟩=x at *
      have HT:=hide (And.intro ht hfx)
      have HLT:=hide hlt
      have hMb:n≤1000000000:=HMB.out
      rw[if_neg (Nat.ne_of_lt hlt)] at ht
      have htb3:t.size≤34359738368:=by omega
      have hxz:x.size≤268435456:=by rcases hfx with h | ⟨_,h⟩ <;> omega
      have u1:¬ (9223372036854775807<t.size+x.size):=by omega
      clear ht hfx
      go_wp2
      go_roundw
      case rel=>
       have hlt:=HLT.out
       obtain ⟨h1,h2⟩:=HT.out
       rw[if_neg (Nat.ne_of_lt hlt)] at h1
       refine ⟨rfl,_,k+1,rfl,by go_num,hlt,?_⟩
       rw[cat_size]
       split
       ·rcases h2 with h2 | ⟨_,h2⟩ <;> omega
       ·rcases h2 with h2 | ⟨h3,_⟩ <;> omega
      case measure=>have:=HLT.out;simp[intOf];omega
     ·have jl:¬ (k:Int)<((n:Nat):Int):=by omega
      have hMb:n≤1000000000:=HMB.out
      go_wp2
      go_ret
      exact ⟨t,rfl,by split at ht <;> omega,HBL.out⟩
   ·have HHL:=hide (HH2.out wc HBW.out)
    have HZ:=hide (And.intro hze1 hze2)
    go_wp2_with fail
    refine HHL.out.mono ?_
    rintro e w6 ⟨u,L,rfl,hr,hfew,hlen,hb4⟩
    obtain ⟨m,hm⟩:∃ m:Nat,L.length=m:=⟨_,rfl⟩
    have hst:=Row.strs hr
    rw[hm] at hr hlen
    obtain ⟨sv,cv,rfl,_⟩:=Row.anyN hr
    have HST:=hide hst
    have HLM:=hide hm
    have HFW:=hide (hfew.fw m)
    have HBL:=hide (HBW.out.trans (hb4.mono HBW.out.size))
    have HMB:=hide (show m≤1000000000 by omega)
    clear HHL hb4 hr hst hfew
    go_wp2
    go_loopw [18,19] (fun vt vk wr=>BeL w6 (m) vt vk wr) (fun _ vk _=>m-(intOf vk).toNat)
    case atStart=>exact ⟨rfl,_,0,rfl,rfl,Nat.zero_le _,by have:=HZ.out;rw[cat_size];split <;> omega⟩
    case round=>
     obtain ⟨rfl,t,k,rfl,rfl,hk,ht⟩:=hrel
     by_cases hlt:k<m
     ·have jl:(k:Int)<((m:Nat):Int):=by omega
      obtain ⟨g0,o0,c0,hv0,hg0,e0⟩:=HST.out.at k (by rw[HLM.out];exact hlt)
      injection hv0 with hv0 hv0n hv0c
      clear hv0n hv0c
      subst hv0
      have hfx:=HFW.out k hlt
      generalize (L).getD k ⟨#[]⟩=x at *
      have HT:=hide (And.intro ht hfx)
      have HLT:=hide hlt
      have hMb:m≤1000000000:=HMB.out
      rw[if_neg (Nat.ne_of_lt hlt)] at ht
      have htb3:t.size≤34359738368:=by omega
      have hxz:x.size≤268435456:=by rcases hfx with h | ⟨_,h⟩ <;> omega
      have u1:¬ (9223372036854775807<t.size+x.size):=by omega
      clear ht hfx
      go_wp2
      go_roundw
      case rel=>
       have hlt:=HLT.out
       obtain ⟨h1,h2⟩:=HT.out
       rw[if_neg (Nat.ne_of_lt hlt)] at h1
       refine ⟨rfl,_,k+1,rfl,by go_num,hlt,?_⟩
       rw[cat_size]
       split
       ·rcases h2 with h2 | ⟨_,h2⟩ <;> omega
       ·rcases h2 with h2 | ⟨h3,_⟩ <;> omega
      case measure=>have:=HLT.out;simp[intOf];omega
     ·have jl:¬ (k:Int)<((m:Nat):Int):=by omega
      have hMb:m≤1000000000:=HMB.out
      go_wp2
      go_ret
      exact ⟨t,rfl,by split at ht <;> omega,HBL.out⟩
def MdR (text:ByteArray) (fb:Nat) (v vb:Value) (l:List ByteArray) (d:ByteArray) (w:World):Prop:=1≤l.length∧l.length≤3∧(∀ m ∈ l,m.size=32)∧d.size=16*(l.length+2)∧FileR fb v vb l d text (fileB l d text) (Ref.head l d 0) (Ref.pkey l d 0) w
theorem MdR.after {text:ByteArray} {fb:Nat} {v vb:Value} {l:List ByteArray} {d:ByteArray} {w w':World} (h:MdR text fb v vb l d w) (hb:Below w.heap.size w w'):MdR text fb v vb l d w':=⟨h.1,h.2.1,h.2.2.1,h.2.2.2.1,h.2.2.2.2.after hb⟩
theorem MdR.fb {text:ByteArray} {fb:Nat} {v vb:Value} {l:List ByteArray} {d:ByteArray} {w:World} (h:MdR text fb v vb l d w) (hx:text.size≤268435456):∃ bl fc,FB fb (fileB l d text) (Ref.head l d 0).size bl fc w:=by
 obtain ⟨h1,h3,hm,hd,R⟩:=h
 have F:=file_facts l d text h1 h3 hd
 have e1:=F.bz
 have e2:=F.hs
 have e3:=Ref.encF_len (key:=(Ref.pkey l d 0).data.toList) (by rw[ba_len,F.ky]) text.data.toList
 have e4:=Ref.full_nums text.data.toList.length
 have e5:text.data.toList.length=text.size:=ba_len _
 have e6:=Ref.full_nums text.size
 refine ⟨_,_,R.blk,rfl,rfl,by omega,by omega,by omega,by omega,few_boxes _ _,by rw[Ref.boxesL_len];omega,by rw[Ref.boxesL_len];omega,vb,rfl,R.bx⟩
theorem MdR.hollow {text:ByteArray} {fb:Nat} {v vb:Value} {l:List ByteArray} {d:ByteArray} {w:World} (h:MdR text fb v vb l d w) (hx:text.size≤268435456):∀ w',Below w.heap.size w w'→Calls Tryz.prog 42 #[.pointer (some ⟨fb,0,none⟩)] w' fun e w2=>∃ u L,e = .returned u∧Row w2 w'.heap.size 9 1 u L.length (strV L)∧Few L∧L.length≤268435458∧Below w'.heap.size w' w2:=by
 intro w' hb
 obtain ⟨h1,h3,hm,hd,R⟩:=h.after hb
 exact hollow_any fb v vb l d text _ _ _ w' R (file_facts l d text h1 h3 hd).ky hx
structure TwoR (text other:ByteArray) (wb fs fb gb:Nat) (v vb:Value) (l:List ByteArray) (d:ByteArray) (v' vb':Value) (l':List ByteArray) (d':ByteArray) (w0 w:World):Prop where
 wld:Blk w wb 43 [.slice (some ⟨fs,0,none⟩) 2 2]
 fls:Blk w fs 22 [.pointer (some ⟨fb,0,none⟩),.pointer (some ⟨gb,0,none⟩)]
 f:MdR text fb v vb l d w
 g:MdR other gb v' vb' l' d' w
 tb:Tabs w
 be:Below w0.heap.size w0 w
theorem TwoR.after {text other:ByteArray} {wb fs fb gb:Nat} {v vb:Value} {l:List ByteArray} {d:ByteArray} {v' vb':Value} {l':List ByteArray} {d':ByteArray} {w0 w w':World} (h:TwoR text other wb fs fb gb v vb l d v' vb' l' d' w0 w) (hb:Below w.heap.size w w'):TwoR text other wb fs fb gb v vb l d v' vb' l' d' w0 w':=
 ⟨h.wld.below hb h.wld.lt,h.fls.below hb h.fls.lt,h.f.after hb,h.g.after hb,h.tb.after hb,h.be.trans (hb.mono h.be.size)⟩
def TwoP (text other s:ByteArray) (w:World) (e:Ending) (w':World):Prop:=
 (e = .returned (.tuple #[.pointer none,.bool true])∧w'=w)∨(text.size≤268435456∧other.size≤268435456∧s.size≤268435456∧∃ wb fs fb gb v vb l d v' vb' l' d',e = .returned (.tuple #[.pointer (some ⟨wb,0,none⟩),.bool true])∧TwoR text other wb fs fb gb v vb l d v' vb' l' d' w w')
theorem next_c (c:Int) (h1 : -9223372036854775808≤c) (h2:c≤9223372036854775807):∃ c',IntKind.i64.wrap (c+1)=c'∧wrap64 (c+1)=c'∧-9223372036854775808≤c'∧c'≤9223372036854775807:=by
 rcases Int.lt_or_eq_of_le h2 with h | h
 ·exact ⟨c+1,IntWalk.i64_in _ (by omega),IntWalk.wrap64_in _ (by omega),by omega,by omega⟩
 ·subst h
  exact ⟨-9223372036854775808,rfl,by decide +kernel,by decide,by decide⟩
set_option maxRecDepth 100000 in
set_option maxHeartbeats 1600000 in
theorem two_any (text other s who:ByteArray) (p c:Int) (w:World) (ht:Tabs w) (hwho:who.size≤9223372036854775807) (p1 : -9223372036854775808≤p) (p2:p≤9223372036854775807) (c1 : -9223372036854775808≤c) (c2:c≤9223372036854775807):
  Calls Tryz.prog 13 #[.string text,.string other,.string s,.string who,.int .i64 p,.int .i64 c] w (TwoP text other s w):=by
 obtain ⟨X,hX⟩:∃ X:Nat,text.size=X:=⟨_,rfl⟩
 obtain ⟨Y,hY⟩:∃ Y:Nat,other.size=Y:=⟨_,rfl⟩
 obtain ⟨Z,hZ⟩:∃ Z:Nat,s.size=Z:=⟨_,rfl⟩
 by_cases h1:268435456<X
 ·have z1:(decide ((268435456:Int)<(X:Int)))=true:=by simp;omega
  go_enter Tryz.func13,Tryz.ntmps13
  go_wp2
  refine bodyPost_ret (results_tmp2 rfl _ _ _) rfl ?_
  exact .inl ⟨rfl,rfl⟩
 ·have z1:(decide ((268435456:Int)<(X:Int)))=false:=by simp;omega
  by_cases h2:268435456<Y
  ·have z2:(decide ((268435456:Int)<(Y:Int)))=true:=by simp;omega
   go_enter Tryz.func13,Tryz.ntmps13
   go_wp2
   refine bodyPost_ret (results_tmp2 rfl _ _ _) rfl ?_
   exact .inl ⟨rfl,rfl⟩
  ·have z2:(decide ((268435456:Int)<(Y:Int)))=false:=by simp;omega
   by_cases h3:268435456<Z
   ·have z3:(decide ((268435456:Int)<(Z:Int)))=true:=by simp;omega
    go_enter Tryz.func13,Tryz.ntmps13
    go_wp2
    refine bodyPost_ret (results_tmp2 rfl _ _ _) rfl ?_
    exact .inl ⟨rfl,rfl⟩
   ·have z3:(decide ((268435456:Int)<(Z:Int)))=false:=by simp;omega
    obtain ⟨c',tc1,tc2,c3,c4⟩:=next_c c c1 c2
    have HM1:=hide (made_any text who p c w ht (by omega) hwho p1 p2 c1 c2)
    have HM2:=hide (fun w' t=>made_any other who p c' w' t (by omega) hwho p1 p2 c3 c4)
    have HXY:=hide (show text.size≤268435456∧other.size≤268435456∧s.size≤268435456 by omega)
    clear c3 c4 c1 c2 p1 p2
    go_enter Tryz.func13,Tryz.ntmps13
    go_wp2_with fail
    refine HM1.out.mono ?_
    rintro e w1 ⟨fb,v,vb,l,d,rfl,_,a1,a3,am,ad,aR,ab1,at1⟩
    have HF1:=hide (show MdR text fb v vb l d w1 from ⟨a1,a3,am,ad,aR⟩)
    have HM3:=hide (HM2.out w1 at1)
    have HB1:=hide ab1
    clear HM1 HM2 a1 a3 am ad aR ab1 at1
    go_wp2_with fail
    refine HM3.out.mono ?_
    rintro e w2 ⟨gb,v',vb',l',d',rfl,_,a1,a3,am,ad,aR,ab2,at2⟩
    have HG2:=hide (show MdR other gb v' vb' l' d' w2 from ⟨a1,a3,am,ad,aR⟩)
    have HF2:=hide (HF1.out.after ab2)
    have HB2:=hide (HB1.out.trans (ab2.mono HB1.out.size))
    have HT2:=hide at2
    clear HM3 a1 a3 am ad aR ab2 at2 HF1 HB1
    go_wp2
    refine bodyPost_ret (results_tmp2 rfl _ _ _) rfl ?_
    have hb3:Below w2.heap.size w2 (w2.alloc (.cells #[.pointer (some ⟨fb,0,none⟩),.pointer (some ⟨gb,0,none⟩)] 22)):=(Below.refl _ _).alloc (Nat.le_refl _) _
    have hb4:=hb3.alloc (o:=.cells #[.slice (some ⟨w2.heap.size,0,none⟩) 2 2] 43) hb3.size
    have hB3:Blk (w2.alloc (.cells #[.pointer (some ⟨fb,0,none⟩),.pointer (some ⟨gb,0,none⟩)] 22)) w2.heap.size 22 [.pointer (some ⟨fb,0,none⟩),.pointer (some ⟨gb,0,none⟩)]:=Blk.new rfl rfl
    exact .inr ⟨HXY.out.1,HXY.out.2.1,HXY.out.2.2,_,w2.heap.size,fb,gb,v,vb,l,d,v',vb',l',d',rfl,Blk.new (Array.size_push ..).symm rfl,hB3.alloc _,HF2.out.after hb4,HG2.out.after hb4,HT2.out.after hb4,HB2.out.trans (hb4.mono HB2.out.size)⟩
namespace Ref
def atRun (key C:List UInt8):Nat→Nat→List UInt8→List UInt8 × Int
 | 0,_,acc=>(acc,0)
 | f+1,i,acc=>if (opnI key C i).2≠0 then (acc,(opnI key C i).2) else atRun key C f (i+1) (acc++(opnI key C i).1)
structure AtC (key C:List UInt8) (N size:Nat):Prop where
 n:N=boxN C.length
 pos:0<C.length
 ok:(opnI key C (N-1)).2=0
 size:size=16*(N-1)+(opnI key C (N-1)).1.length
section
variable {key C:List UInt8} {N size:Nat}
theorem AtC.n1 (h:AtC key C N size):1≤N:=by
 have:=boxN_nums C.length
 have h1:=h.n
 have h2:=h.pos
 omega
theorem AtC.lt (h:AtC key C N size) (i:Nat) (hi:i+1<N):32*i+32<C.length:=by
 have:=boxN_nums C.length
 have h1:=h.n
 omega
theorem AtC.flag (h:AtC key C N size) (i:Nat) (hi:i<N):decide (C.length≤32*i+32)=decide (i+1=boxN C.length):=by
 have:=boxN_nums C.length
 have h1:=h.n
 rw[←h1]
 exact decide_eq_decide.2 (by omega)
theorem AtC.len (h:AtC key C N size) (i:Nat) (hi:i+1<N) (ho:(opnI key C i).2=0):(opnI key C i).1.length=16:=by
 unfold opnI at ho ⊢
 have hl:=h.lt i hi
 rcases opnC_cases key i (decide (C.length≤32*i+32)) (boxI C i) with ⟨_,q,_⟩ | ⟨q,_⟩
 ·have:(boxI C i).length=32:=by unfold boxI;rw[List.length_take,List.length_drop];omega
  omega
 ·exact absurd ho q
theorem AtC.last16 (_h:AtC key C N size):(opnI key C (N-1)).1.length≤16:=by
 unfold opnI
 have hb:=boxI_len C (N-1)
 rcases opnC_cases key (N-1) (decide (C.length≤32*(N-1)+32)) (boxI C (N-1)) with ⟨_,q,_⟩ | ⟨_,q⟩
 ·omega
 ·rw[q];exact Nat.zero_le _
theorem AtC.stands (h:AtC key C N size) (i:Nat) (hi:i<N) (ho:(opnI key C i).2=0):Stands key C i (opnI key C i).1:=by
 refine ⟨by rw[←h.n];exact hi,?_⟩
 rw[←h.flag i hi]
 unfold opnI at ho ⊢
 rcases opnC_cases key i (decide (C.length≤32*i+32)) (boxI C i) with ⟨_,_,q,_⟩ | ⟨q,_⟩
 ·exact q
 ·exact absurd ho q
theorem AtC.code (h:AtC key C N size) (i:Nat) (hi:i<N) (ho:(opnI key C i).2≠0):i+1<N∧(opnI key C i).1=[]∧((opnI key C i).2=9∨(opnI key C i).2=11):=by
 have hl:i+1<N:=by
  rcases Nat.lt_or_ge (i+1) N with q | q
  ·exact q
  ·have e:i=N-1:=by omega
   rw[e] at ho
   exact absurd h.ok ho
 have hf:decide (C.length≤32*i+32)=false:=decide_eq_false (by have:=h.lt i hl;omega)
 unfold opnI at ho ⊢
 rw[hf] at ho ⊢
 refine ⟨hl,?_,?_⟩
 ·rcases opnC_cases key i false (boxI C i) with ⟨q,_⟩ | ⟨_,q⟩
  ·exact absurd q ho
  ·exact q
 ·rcases opnC_num key i false (boxI C i) with q | q | ⟨q,_⟩ | ⟨_,q⟩
  ·exact absurd q ho
  ·exact .inl q
  ·cases q
  ·exact .inr q
theorem AtC.big (h:AtC key C N size) (i:Nat) (hi:i+1<N):16*i+16≤size:=by have:=h.size;omega
theorem AtC.run (h:AtC key C N size) {a:Nat} {acc:List UInt8} {r:List UInt8 × Int} (hs:Spn key C size a acc r):∀ i,a=16*i→i<N→r=atRun key C (N-i) i acc:=by
 have hz:=h.size
 have h16:=h.last16
 induction hs using Ref.Spn.ind with
 | done a acc hle=>
  intro i ha hi
  have e:i=N-1:=by
   rcases Nat.lt_or_ge (i+1) N with q | q
   ·have:=h.big i q;omega
   ·omega
  have hl:(opnI key C i).1=[]:=List.eq_nil_of_length_eq_zero (by rw[e];rw[e] at ha;omega)
  have hk:(opnI key C i).2=0:=by rw[e];exact h.ok
  rw[show N-i=0+1 by omega,atRun,if_neg (fun q=>q hk),atRun,hl,List.append_nil]
 | bad a acc hlt hb=>
  intro i ha hi
  have e:a/16=i:=by omega
  rw[e] at hb ⊢
  rw[show N-i=(N-i-1)+1 by omega,atRun,if_pos hb]
 | more a acc r hlt hk hn ih=>
  intro i ha hi
  have e:a/16=i:=by omega
  rw[e] at hk
  rw[show N-i=(N-(i+1))+1 by omega,atRun,if_neg (fun q=>q hk)]
  rcases Nat.lt_or_ge (i+1) N with q | q
  ·have hb:=h.big i q
   have hl:=h.len i q hk
   have hu:upTo a size=16*(i+1):=by unfold upTo;omega
   have:=ih (i+1) hu q
   rw[this,e,hu,show a-16*i=0 by omega,List.drop_zero,List.take_of_length_le (by omega)]
  ·have ei:i=N-1:=by omega
   have hu:upTo a size=size:=by unfold upTo;omega
   rw[e,hu,show a-16*i=0 by omega,List.drop_zero,List.take_of_length_le (by rw[ei];omega)] at hn
   cases hn using Ref.Spn.elim with
   | done _ _ _=>rw[show N-(i+1)=0 by omega,atRun]
   | bad _ _ q2 _=>omega
   | more _ _ _ q2 _ _=>omega
theorem AtC.one (h:AtC key C N size) (i:Nat) (hi:i<N) {r:List UInt8 × Int} (hr:AtRd key C size 16 ((16*i:Nat):Int) r):((opnI key C i).2≠0∧r=([],(opnI key C i).2))∨((opnI key C i).2=0∧r.1=(opnI key C i).1∧(r.2=0∨r.2=13)):=by
 have hz:=h.size
 have h16:=h.last16
 have hge:16*i≤size:=by
  rcases Nat.lt_or_ge (i+1) N with q | q
  ·have:=h.big i q;omega
  ·omega
 cases hr using AtRd.elim with
 | arg q=>omega
 | over _ _ q=>omega
 | all r _ _ q hs=>
  rw[show ((16*i:Nat):Int).toNat=16*i from Int.toNat_natCast _,show (16:Int).toNat=16 from rfl] at hs
  cases hs using Ref.Spn.elim with
  | done _ _ q2=>omega
  | bad _ _ _ q2=>
   rw[show 16*i/16=i by omega] at q2 ⊢
   exact .inl ⟨q2,rfl⟩
  | more _ _ _ _ q2 hn=>
   rw[show 16*i/16=i by omega] at q2 hn
   have hu:upTo (16*i) (16*i+16)=16*i+16:=by unfold upTo;omega
   rw[hu] at hn
   have hl:(opnI key C i).1.length≤16:=by
    rcases Nat.lt_or_ge (i+1) N with q3 | q3
    ·rw[h.len i q3 q2];exact Nat.le_refl _
    ·rw[show i=N-1 by omega];exact h16
   rw[show 16*i-16*i=0 by omega,List.drop_zero,List.take_of_length_le (by omega),List.nil_append] at hn
   cases hn using Ref.Spn.elim with
   | done _ _ _=>exact .inr ⟨q2,rfl,.inl rfl⟩
   | bad _ _ q3 _=>omega
   | more _ _ _ q3 _ _=>omega
 | some r _ _ _ q hs=>
  have ei:i=N-1:=by
   rcases Nat.lt_or_ge (i+1) N with q3 | q3
   ·have:=h.big i q3;omega
   ·omega
  have hk:(opnI key C i).2=0:=by rw[ei];exact h.ok
  have hsz:size=16*i+(opnI key C i).1.length:=by rw[ei];exact hz
  rw[show ((16*i:Nat):Int).toNat=16*i from Int.toNat_natCast _] at hs
  have hr:r=((opnI key C i).1,0):=by
   cases hs using Ref.Spn.elim with
   | done _ _ q2=>
    have:(opnI key C i).1=[]:=List.eq_nil_of_length_eq_zero (by omega)
    rw[this]
   | bad _ _ _ q2=>
    rw[show 16*i/16=i by omega] at q2
    exact absurd hk q2
   | more _ _ _ _ q2 hn=>
    have hu:upTo (16*i) size=size:=by unfold upTo;omega
    rw[show 16*i/16=i by omega,hu,show 16*i-16*i=0 by omega,List.drop_zero,List.take_of_length_le (by omega),List.nil_append] at hn
    cases hn using Ref.Spn.elim with
    | done _ _ _=>rfl
    | bad _ _ q3 _=>omega
    | more _ _ _ q3 _ _=>omega
  refine .inr ⟨hk,?_,?_⟩
  ·rw[hr,if_neg (by simp)]
  ·rw[hr,if_neg (by simp)]
   exact .inr rfl
theorem AtC.whole (h:AtC key C N size) {r:List UInt8 × Int} (hr:AtRd key C size (size:Int) 0 r):r=atRun key C N 0 []:=by
 have:=h.n1
 cases hr using AtRd.elim with
 | arg q=>omega
 | over _ _ q=>omega
 | all r _ _ q hs=>
  rw[show (0:Int).toNat=0 from rfl] at hs
  have hs2:Spn key C size 0 [] r:=by rw[Nat.zero_add,Int.toNat_natCast] at hs;exact hs
  exact h.run hs2 0 rfl (by omega)
 | some r _ _ _ q hs=>omega
theorem at_from {size off:Nat} {r:List UInt8 × Int} (h0:0<off) (hr:AtRd key C size (size:Int) (off:Int) r):r.2≠0:=by
 cases hr using AtRd.elim with
 | arg q=>omega
 | over _ _ q=>decide
 | all r _ _ q hs=>omega
 | some r _ _ _ q hs=>
  split
  ·assumption
  ·exact (show (13:Int)≠0 by decide)
end
end Ref
theorem atN_atC {m:List UInt8} {b:ByteArray} {key:List UInt8} {ch:ByteArray} {size:Nat} (h:AtN m b 0 key ch size):∃ H ss bs mac fk,Paid m b H ss bs mac fk key∧ch=b.extract (H.size+16) b.size∧Ref.AtC key ch.data.toList (Ref.boxN ch.data.toList.length) size:=by
 generalize hk:(0:Int)=k0 at h
 cases h using AtN.elim with
 | bad y k key hn hk2=>exact absurd hk.symm hk2
 | cut y key hn _=>cases hk
 | last y key hn _ ho=>exact absurd hk.symm ho
 | ok y key hn hlt ho=>
  obtain ⟨H,ss,bs,mac,fk,P,e1,e2,e3⟩:=new_paid (b:=b) rfl rfl hn
  rw[e1] at hlt ho ⊢
  have hcl:(b.extract (H.size+16) b.size).data.toList.length=b.size-(H.size+16):=by rw[ba_len,ByteArray.size_extract];omega
  have hN:Ref.boxN (b.extract (H.size+16) b.size).data.toList.length-1=(b.size-(H.size+16)-1)/32:=by
   rw[hcl]
   unfold Ref.boxN
   omega
  refine ⟨H,ss,bs,mac,fk,P,rfl,⟨rfl,by rw[hcl];omega,by rw[hN];exact ho,by rw[hN]⟩⟩
def BtR (w:World) (ab pb:Nat) (key:ByteArray) (vb:Value) (ch:ByteArray) (size N:Nat) (va vf vi:Value) (wr:World):Prop:=
 ∃ (i:Nat) (all:List UInt8) (fault:Int),va = .string ⟨all.toArray⟩∧vf = .int .i64 fault∧vi = .int .i64 (i:Nat)∧i≤N∧all.length≤16*i∧Ref.atRun key.data.toList ch.data.toList N 0 []=(if fault=0 then Ref.atRun key.data.toList ch.data.toList (N-i) i all else (all,fault))∧Blk wr ab 129 (atCells key ch size)∧PayR pb key vb ch.data.toList wr∧Below w.heap.size w wr
set_option maxRecDepth 100000 in
set_option maxHeartbeats 4000000 in
theorem bent_any (m b:ByteArray) (p:Int) (w:World) (ht:Tabs w) (hm:m.size=32) (hb:b.size≤34359738368) (p1 : -9223372036854775808≤p) (p2:p≤9223372036854775807):
  Calls Tryz.prog 17 #[.string m,.string b,.int .i64 p] w fun e w'=>e = .returned (.bool true)∧Below w.heap.size w w':=by
 have HT:=hide ht
 have HNA:=hide (newAt_any m b w ht (by omega))
 have HPK:=hide (fun (q:Nat) w (h0:0<q) (h1:q≤1099511627776)=>kpick_any p q w p1 p2 h0 h1)
 clear ht p1 p2
 go_enter Tryz.func17,Tryz.ntmps17
 go_wp2_with fail
 refine HNA.out.mono ?_
 rintro e w1 ⟨k,key,ch,size,pv,hA,rfl,hk1,hk2,hb1⟩
 have B1:=hide hb1
 clear HNA
 by_cases hk:k=0
 ·subst hk
  obtain ⟨ab,hab,rfl,hBa,hkl,hsz⟩:=hk2 rfl
  obtain ⟨H,ss,bods,mac,fk,hP,hch,hC⟩:=atN_atC hA
  have hPY:=payload_any m b H ss bods mac fk key w1 (HT.out.after hb1) hP hm hb
  rw[←hch] at hPY
  have HPY:=hide hPY
  have hcb:ch.size≤b.size:=by rw[hch,ByteArray.size_extract];omega
  have hcl:ch.data.toList.length=ch.size:=ba_len _
  have hkz:(⟨key.toArray⟩:ByteArray).size=32:=by rw[two_size,hkl]
  have hC2:Ref.AtC (⟨key.toArray⟩:ByteArray).data.toList ch.data.toList (Ref.boxN ch.data.toList.length) size:=hC
  have HBA:=hide hBa
  have hal:=hBa.lt
  generalize (⟨key.toArray⟩:ByteArray)=KY at *
  have hbn:=Ref.boxN_nums ch.data.toList.length
  obtain ⟨N,hN⟩:∃ N:Nat,Ref.boxN ch.data.toList.length=N:=⟨_,rfl⟩
  have hC3:=hC2
  rw[hN] at hC3 hbn
  have HC:=hide hC3
  have hN1:=hC3.n1
  have hNb:N≤34359738368:=by omega
  have hszb:size≤34359738500:=by omega
  have HCL:=hide (show ch.data.toList.length≤1099511627776 by omega)
  have HNN:=hide hN
  have HKZ:=hide hkz
  clear hA hk1 hk2 hb1 hPY hP hch hC hC2 hBa hkl hcl hcb hbn hsz hC3
  go_wp2_with fail
  refine HPY.out.mono ?_
  rintro e w2 ⟨pb,vb,rfl,hPR,hb2⟩
  obtain ⟨ao,cp,rfl⟩:=hPR.bx.len
  rw[Ref.boxesL_len,HNN.out] at hPR
  have HBA2:=hide (HBA.out.below hb2 hal)
  have HB2:=hide (B1.out.trans (hb2.mono B1.out.size))
  have HPR:=hide hPR
  have q1:=hPR.blk.cell (i:=1) rfl
  have zN:((N:Int)==0)=false:=beq_eq_false_iff_ne.2 (by omega)
  clear HPY hb2 hPR HBA B1 hal hab
  go_wp2
  clear q1
  go_loopw [12,13,14] (fun va vf vi wr=>BtR w ab pb KY (.slice ao N cp) ch size N va vf vi wr) (fun _ _ vi _=>N-(intOf vi).toNat)
  case atStart=>exact ⟨0,[],0,rfl,rfl,rfl,Nat.zero_le _,Nat.zero_le _,by rw[if_pos rfl];rfl,HBA2.out,HPR.out,HB2.out⟩
  case round=>
   clear HBA2 HPR HB2
   obtain ⟨i,all,fault,rfl,rfl,rfl,hi,hall,hrun,hBa,hPR,hbe⟩:=hrel
   have HBA:=hide hBa
   have HPR:=hide hPR
   have HBE:=hide hbe
   have hal:=hBa.lt
   have hoz:(⟨all.toArray⟩:ByteArray).size=all.length:=two_size _
   have HOU:=hide (show (⟨all.toArray⟩:ByteArray).data.toList=all from rfl)
   have HAL:=hide (And.intro hall hoz)
   have hab2:(⟨all.toArray⟩:ByteArray).size≤549755813888:=by omega
   generalize hOB:(⟨all.toArray⟩:ByteArray)=ob at *
   have HOB:=hide hOB
   clear hOB hoz
   by_cases hlt:i<N
   ·have jl:(i:Int)<(N:Int):=by omega
    obtain ⟨o16,ho16⟩:∃ x:Nat,16*i=x:=⟨_,rfl⟩
    have to:(i:Int)*16=(o16:Int):=by omega
    have ho16b:o16≤549755813888:=by omega
    have HRD:=hide (atRead_any ab KY ch size 16 (o16:Nat) wr hBa HKZ.out (by omega) (by decide) (by decide) (by omega) (by omega))
    have HON:=hide (fun r (h:AtRd KY.data.toList ch.data.toList size 16 ((o16:Nat):Int) r)=>HC.out.one i hlt (by rw[ho16];exact h))
    have hcode:=HC.out.code i hlt
    have hstd:=HC.out.stands i hlt
    have hlen:(Ref.opnI KY.data.toList ch.data.toList i).1.length≤16:=by
     rcases Nat.lt_or_ge (i+1) N with q | q
     ·by_cases h0:(Ref.opnI KY.data.toList ch.data.toList i).2=0
      ·rw[HC.out.len i q h0];exact Nat.le_refl _
      ·rw[(hcode h0).2.1];exact Nat.zero_le _
     ·rw[show i=N-1 by omega];exact HC.out.last16
    rw[show N-i=(N-(i+1))+1 by omega,Ref.atRun] at hrun
    have HRUN:=hide hrun
    have HLT:=hide hlt
    have HCD:=hide (And.intro hcode (And.intro hstd hlen))
    clear hBa hPR hbe hrun hcode hstd hlen hlt hi hall ho16
    unfold ansV at HRD
    go_wp2_with fail
    refine HRD.out.mono ?_
    rintro e w3 ⟨⟨rt,re⟩,hR,rfl,hb3⟩
    have hon:=HON.out (rt,re) hR
    have HBA3:=hide (HBA.out.below hb3 hal)
    have HPR3:=hide (HPR.out.after hb3)
    have HBE3:=hide (HBE.out.trans (hb3.mono HBE.out.size))
    clear HRD HON hR hb3 HBA HPR HBE
    generalize Ref.opnI KY.data.toList ch.data.toList i=oi at *
    obtain ⟨ot,oe⟩:=oi
    simp only at hon
    rcases hon with ⟨hne,hr⟩ | ⟨h0,hr1,hr2⟩
    ·obtain rfl:rt=[]:=congrArg Prod.fst hr
     obtain rfl:re=oe:=congrArg Prod.snd hr
     obtain ⟨_,_,hco⟩:=HCD.out.1 hne
     simp only at hco
     rcases hco with rfl | rfl
     ·by_cases hf:fault=0
      ·subst hf
       go_wp2
       go_roundw
       case rel=>exact ⟨i+1,all,9,by rw[HOB.out],rfl,by go_num,HLT.out,by have:=HAL.out;omega,by rw[HRUN.out];simp,HBA3.out,HPR3.out,HBE3.out⟩
       case measure=>have:=HLT.out;simp[intOf];omega
      ·have zf:(fault==0)=false:=beq_eq_false_iff_ne.2 hf
       go_wp2
       go_roundw
       case rel=>exact ⟨i+1,all,fault,by rw[HOB.out],rfl,by go_num,HLT.out,by have:=HAL.out;omega,by have:=HRUN.out;rw[if_neg hf] at this;rw[this,if_neg hf],HBA3.out,HPR3.out,HBE3.out⟩
       case measure=>have:=HLT.out;simp[intOf];omega
     ·by_cases hf:fault=0
      ·subst hf
       go_wp2
       go_roundw
       case rel=>exact ⟨i+1,all,11,by rw[HOB.out],rfl,by go_num,HLT.out,by have:=HAL.out;omega,by rw[HRUN.out];simp,HBA3.out,HPR3.out,HBE3.out⟩
       case measure=>have:=HLT.out;simp[intOf];omega
      ·have zf:(fault==0)=false:=beq_eq_false_iff_ne.2 hf
       go_wp2
       go_roundw
       case rel=>exact ⟨i+1,all,fault,by rw[HOB.out],rfl,by go_num,HLT.out,by have:=HAL.out;omega,by have:=HRUN.out;rw[if_neg hf] at this;rw[this,if_neg hf],HBA3.out,HPR3.out,HBE3.out⟩
       case measure=>have:=HLT.out;simp[intOf];omega
    ·subst hr1
     have hst:=HCD.out.2.1 h0
     have hln:=HCD.out.2.2
     simp only at hst hln
     have htz:(⟨rt.toArray⟩:ByteArray).size=rt.length:=two_size _
     have HSD:=hide (fun (w':World) (h:PayR pb KY (.slice ao N cp) ch.data.toList w')=>stands_any pb KY ⟨rt.toArray⟩ (.slice ao N cp) ch.data.toList i w' h HKZ.out (by omega) HCL.out (by rw[two_toList];exact hst))
     have HSD3:=hide (HSD.out w3 HPR3.out)
     have HAP:=hide (show ob++⟨rt.toArray⟩=⟨(all++rt).toArray⟩ from ba_ext (by rw[ba_list,HOU.out]))
     have HLN:=hide hln
     have htb:(⟨rt.toArray⟩:ByteArray).size≤16:=by omega
     have u1:¬ (9223372036854775807<ob.size+(⟨rt.toArray⟩:ByteArray).size):=by omega
     clear hst hln htz HSD
     generalize (⟨rt.toArray⟩:ByteArray)=rb at *
     have hz2:re=0∨re=13:=hr2
     clear hr2
     rcases hz2 with rfl | rfl
     ·go_wp2_with fail
      refine HSD3.out.mono ?_
      rintro e w4 ⟨rfl,hb4⟩
      have HBA4:=hide (HBA3.out.below hb4 HBA3.out.lt)
      have HPR4:=hide (HPR3.out.after hb4)
      have HBE4:=hide (HBE3.out.trans (hb4.mono HBE3.out.size))
      clear HSD3 hb4 HBA3 HPR3 HBE3
      by_cases hf:fault=0
      ·subst hf
       go_wp2
       go_roundw
       case rel=>exact ⟨i+1,all++rt,0,by rw[HAP.out],rfl,by go_num,HLT.out,by have:=HAL.out;have:=HLN.out;rw[List.length_append];omega,by rw[HRUN.out];simp[h0],HBA4.out,HPR4.out,HBE4.out⟩
       case measure=>have:=HLT.out;simp[intOf];omega
      ·have zf:(fault==0)=false:=beq_eq_false_iff_ne.2 hf
       go_wp2
       go_roundw
       case rel=>exact ⟨i+1,all,fault,by rw[HOB.out],rfl,by go_num,HLT.out,by have:=HAL.out;omega,by have:=HRUN.out;rw[if_neg hf] at this;rw[this,if_neg hf],HBA4.out,HPR4.out,HBE4.out⟩
       case measure=>have:=HLT.out;simp[intOf];omega
     ·go_wp2_with fail
      refine HSD3.out.mono ?_
      rintro e w4 ⟨rfl,hb4⟩
      have HBA4:=hide (HBA3.out.below hb4 HBA3.out.lt)
      have HPR4:=hide (HPR3.out.after hb4)
      have HBE4:=hide (HBE3.out.trans (hb4.mono HBE3.out.size))
      clear HSD3 hb4 HBA3 HPR3 HBE3
      by_cases hf:fault=0
      ·subst hf
       go_wp2
       go_roundw
       case rel=>exact ⟨i+1,all++rt,0,by rw[HAP.out],rfl,by go_num,HLT.out,by have:=HAL.out;have:=HLN.out;rw[List.length_append];omega,by rw[HRUN.out];simp[h0],HBA4.out,HPR4.out,HBE4.out⟩
       case measure=>have:=HLT.out;simp[intOf];omega
      ·have zf:(fault==0)=false:=beq_eq_false_iff_ne.2 hf
       go_wp2
       go_roundw
       case rel=>exact ⟨i+1,all,fault,by rw[HOB.out],rfl,by go_num,HLT.out,by have:=HAL.out;omega,by have:=HRUN.out;rw[if_neg hf] at this;rw[this,if_neg hf],HBA4.out,HPR4.out,HBE4.out⟩
       case measure=>have:=HLT.out;simp[intOf];omega
   ·obtain rfl:i=N:=by omega
    have jl:¬ (i:Int)<(i:Int):=by omega
    have hrun2:Ref.atRun KY.data.toList ch.data.toList i 0 []=(all,fault):=by
     rw[hrun,Nat.sub_self]
     split
     ·rename_i h;rw[Ref.atRun,h]
     ·rfl
    have HRW:=hide (fun r h=>(HC.out.whole (r:=r) h).trans hrun2)
    have HSZ:=hide (fun w h=>atSize_any ab KY ch size w h)
    have HRD:=hide (fun w h=>atRead_any ab KY ch size (size:Nat) 0 w h HKZ.out (by omega) (by omega) (by omega) (by decide) (by decide))
    obtain ⟨s1,hs1⟩:∃ x:Nat,size+1=x:=⟨_,rfl⟩
    have ts1:(size:Int)+1=(s1:Int):=by omega
    have hs1b:s1≤34359738501:=by omega
    have HPN:=hide (fun w=>HPK.out s1 w (by omega) (by omega))
    have hfl:=pickN_lt p s1 (by omega)
    generalize pickN p s1=from_ at *
    have hfb:from_≤34359738501:=by omega
    have HR2:=hide (fun w h=>atRead_any ab KY ch size (size:Nat) (from_:Nat) w h HKZ.out (by omega) (by omega) (by omega) (by omega) (by omega))
    have HFR:=hide (fun r h0 h=>Ref.at_from (key:=KY.data.toList) (C:=ch.data.toList) (size:=size) (off:=from_) (r:=r) h0 h)
    have HSZA:=hide (HSZ.out wr hBa)
    have HRDA:=hide (HRD.out wr hBa)
    clear hBa hPR hbe hrun hrun2 hlt hi hall hs1 hfl HSZ HRD
    unfold ansV at HRDA HR2
    go_wp2_with fail
    refine HSZA.out.mono ?_
    rintro e w3 ⟨rfl,rfl⟩
    clear HSZA
    go_wp2_with fail
    refine HRDA.out.mono ?_
    rintro e w4 ⟨⟨rt,re⟩,hR,rfl,hb4⟩
    have hq:=HRW.out (rt,re) hR
    obtain rfl:rt=all:=congrArg Prod.fst hq
    obtain rfl:re=fault:=congrArg Prod.snd hq
    rw[HOB.out]
    have HBA4:=hide (HBA.out.below hb4 hal)
    have HBE4:=hide (HBE.out.trans (hb4.mono HBE.out.size))
    clear HRDA hR hq hb4 HBA HBE HRW
    go_wp2_with fail
    refine (HPN.out _).mono ?_
    rintro e w5 ⟨rfl,rfl⟩
    have HRB:=hide (HR2.out _ HBA4.out)
    clear HPN HR2
    go_wp2_with fail
    refine HRB.out.mono ?_
    rintro e w6 ⟨⟨rt2,re2⟩,hR2,rfl,hb6⟩
    have HBE6:=hide (HBE4.out.trans (hb6.mono HBE4.out.size))
    by_cases h0:0<from_
    ·have hne:=HFR.out (rt2,re2) h0 hR2
     simp only at hne
     have z2:(re2==0)=false:=beq_eq_false_iff_ne.2 hne
     have z3:(re2 != 0)=true:=by simp only[bne,z2];rfl
     clear hR2 hb6 HRB HFR
     go_wp2
     go_ret
     exact ⟨rfl,HBE6.out⟩
    ·obtain rfl:from_=0:=by omega
     clear hR2 hb6 HRB HFR h0
     by_cases hz:re2=0
     ·subst hz
      go_wp2
      go_ret
      exact ⟨rfl,HBE6.out⟩
     ·have z2:(re2==0)=false:=beq_eq_false_iff_ne.2 hz
      have z3:(re2 != 0)=true:=by simp only[bne,z2];rfl
      go_wp2
      go_ret
      exact ⟨rfl,HBE6.out⟩
 ·obtain rfl:=hk1 hk
  have z1:(k==0)=false:=beq_eq_false_iff_ne.2 hk
  clear hk1 hk2 hA hb1
  go_wp2
  go_ret
  exact ⟨rfl,B1.out⟩
end Go.Proofs.YtoifalcpfnacnaaGreatDoor
namespace Go.Proofs.YtoifalcpfnacnaaGreatDoor
open Go.ChangeShapes Go.WideShapes Go.ChangeAt Go.RowKit Go.Deep
theorem own:ownKnob Tryz.prog.godebug=none:=by kernel_rfl
theorem gH : Tryz.prog.globalNamed "strongbox/sha2.firstWords" = some 0 := by kernel_rfl
theorem gK : Tryz.prog.globalNamed "strongbox/sha2.roundWords" = some 1 := by kernel_rfl
theorem gHt:(Tryz.prog.globals[0]?).map (·.type)=some 169:=by kernel_rfl
theorem gKt:(Tryz.prog.globals[1]?).map (·.type)=some 187:=by kernel_rfl
theorem c8:Tryz.prog.cellsOf 169=8:=by kernel_rfl
theorem c64:Tryz.prog.cellsOf 187=64:=by kernel_rfl
theorem c32:Tryz.prog.cellsOf 150=1:=by kernel_rfl
theorem tabs2 {W : World} (h' : laidMet Tryz.prog [("strongbox/sha2.firstWords", Lib.tabData .u32 (Sha.H0.list.map fun (n : Nat) => (n : Int))), ("strongbox/sha2.roundWords", Lib.tabData .u32 (Sha.Kt.map fun (n : Nat) => (n : Int)))] W) : HTab W ∧ KTab W := by
 have t1:=Lib.tabIs_of_head gH gHt Tryz.underlying169 Tryz.underlying150 c32 c8 h'
 have t2:=Lib.tabIs_of_head gK gKt Tryz.underlying187 Tryz.underlying150 c32 c64 h'.tail
 refine ⟨fun i hi=>?_,fun i hi=>?_⟩
 ·have hl:i<Sha.H0.list.length:=hi
  rw[t1.cell gH i (by simpa using hl)]
  simp[Sha.wAt,List.getD,hl]
 ·have hl:i<Sha.Kt.length:=hi
  rw[t2.cell gK i (by simpa using hl)]
  simp[Sha.wAt,List.getD,hl]
def laidIn (ns:List Nat):Obj→Obj
 | .cells _ t frozen=>.cells (ns.map fun (n:Nat)=>Value.int .u32 (n:Int)).toArray t frozen
 | o=>o
def laidWorld (P:Program) (os:Os):World:=
 { World.holding P os ⟨#[],#[],[]⟩ with heap:=((World.holding P os ⟨#[],#[],[]⟩).heap.modify 0 (laidIn Sha.H0.list)).modify 1 (laidIn Sha.Kt) }
theorem open_text0 {H:Type} {enc:TypeId × Value→H} {P:Program} {t:TypeId} (ht:P.underlying t=some .string) {W:World} {r:Reach} {b0 base:Nat} {sp:Nat→Bool} {held:Bool} {v:Value} {d:DataW H} {ps:List MemPlace} (hval:Value.okWide P W r b0 t v) (hd:DataW.Trod enc P W base sp held t v d ps):
  ∃ s:ByteArray,v = .string s∧d = .lit (.string s.data.toList)∧ps=[]∧s.size≤maxLen:=by
 obtain ⟨s,rfl⟩:=okWide_string ht hval
 obtain ⟨fuel,hf⟩:=hd
 obtain ⟨s',h,hx,hs⟩:=DataW.trod_string ht hf
 simp[Value.cells] at h
 subst h
 simp only[Prod.mk.injEq] at hx
 exact ⟨s,rfl,hx.1,hx.2,hs⟩
theorem shut_text0 {H:Type} {enc:TypeId × Value→H} {P:Program} {t:TypeId} (ht:P.underlying t=some .string) {W:World} {base:Nat} {sp:Nat→Bool} {held:Bool} {s:ByteArray} (hs:s.size≤maxLen):DataW.Trod enc P W base sp held t (.string s) (.lit (.string s.data.toList)) []:=
 ⟨1,by simp[DataW.trod,Value.cells,ht,hs]⟩
set_option maxRecDepth 100000 in
theorem open_text {H:Type} {enc:TypeId × Value→H} {W:World} {r:Reach} {b0 base:Nat} {sp:Nat→Bool} {held:Bool} {v:Value} {d:DataW H} {ps:List MemPlace} (hval:Value.okWide Tryz.prog W r b0 9 v) (hd:DataW.Trod enc Tryz.prog W base sp held 9 v d ps):
  ∃ s:ByteArray,v = .string s∧d = .lit (.string s.data.toList)∧ps=[]∧s.size≤maxLen:=open_text0 Tryz.underlying9 hval hd
set_option maxRecDepth 100000 in
theorem shut_text {H:Type} {enc:TypeId × Value→H} {W:World} {base:Nat} {sp:Nat→Bool} {held:Bool} {s:ByteArray} (hs:s.size≤maxLen):DataW.Trod enc Tryz.prog W base sp held 9 (.string s) (.lit (.string s.data.toList)) []:=shut_text0 Tryz.underlying9 hs
theorem open_int0 {H:Type} {enc:TypeId × Value→H} {P:Program} {t:TypeId} (ht:P.underlying t=some (.int .i64)) {W:World} {r:Reach} {b0 base:Nat} {sp:Nat→Bool} {held:Bool} {v:Value} {d:DataW H} {ps:List MemPlace} (hval:Value.okWide P W r b0 t v) (hd:DataW.Trod enc P W base sp held t v d ps):
  ∃ n:Int,v = .int .i64 n∧d = .lit (.int .i64 n)∧ps=[]∧(Lit.int .i64 n).wf=true:=by
 obtain ⟨n,rfl⟩:=okWide_int ht hval
 obtain ⟨fuel,hf⟩:=hd
 obtain ⟨m,h,hx,hs⟩:=DataW.trod_int ht hf
 simp[Value.cells] at h
 subst h
 simp only[Prod.mk.injEq] at hx
 exact ⟨n,rfl,hx.1,hx.2,hs⟩
set_option maxRecDepth 100000 in
theorem open_intA {H:Type} {enc:TypeId × Value→H} {W:World} {r:Reach} {b0 base:Nat} {sp:Nat→Bool} {held:Bool} {v:Value} {d:DataW H} {ps:List MemPlace} (hval:Value.okWide Tryz.prog W r b0 3 v) (hd:DataW.Trod enc Tryz.prog W base sp held 3 v d ps):
  ∃ n:Int,v = .int .i64 n∧d = .lit (.int .i64 n)∧ps=[]∧(Lit.int .i64 n).wf=true:=open_int0 Tryz.underlying3 hval hd
set_option maxRecDepth 100000 in
theorem shut_intA {H:Type} {enc:TypeId × Value→H} {W:World} {base:Nat} {sp:Nat→Bool} {held:Bool} {n:Int} (hn:(Lit.int .i64 n).wf=true):DataW.Trod enc Tryz.prog W base sp held 3 (.int .i64 n) (.lit (.int .i64 n)) []:=
 ⟨1,Go.ChangeShapes.trod_int_mk 0 Tryz.underlying3 hn⟩
theorem wfB {n:Int} (h:(Lit.int .i64 n).wf=true) : -9223372036854775808≤n∧n≤9223372036854775807:=by
 simp only[Lit.wf,Bool.and_eq_true,decide_eq_true_eq] at h
 have h1:IntKind.i64.min = -9223372036854775808:=rfl
 have h2:IntKind.i64.max=9223372036854775807:=rfl
 omega
theorem mk4 {H:Type} {enc:TypeId × Value→H} {P:Program} {w:World} {base:Nat} {sp:Nat→Bool} {held:Bool} {t t' t'' t3:TypeId} {v v' v'' v3:Value} {d d' d'' d3:DataW H} (h:DataW.Trod enc P w base sp held t v d []) (h':DataW.Trod enc P w base sp held t' v' d' []) (h'':DataW.Trod enc P w base sp held t'' v'' d'' []) (h3:DataW.Trod enc P w base sp held t3 v3 d3 []):
  DataW.TrodAll enc P w base sp held [t,t',t'',t3] [v,v',v'',v3] [d,d',d'',d3] []:=⟨[],[],h,trodAll_mk3 h' h'' h3,rfl⟩
theorem mk5 {H:Type} {enc:TypeId × Value→H} {P:Program} {w:World} {base:Nat} {sp:Nat→Bool} {held:Bool} {t t1 t2 t3 t4:TypeId} {v v1 v2 v3 v4:Value} {d d1 d2 d3 d4:DataW H} (h:DataW.Trod enc P w base sp held t v d []) (h1:DataW.Trod enc P w base sp held t1 v1 d1 []) (h2:DataW.Trod enc P w base sp held t2 v2 d2 []) (h3:DataW.Trod enc P w base sp held t3 v3 d3 []) (h4:DataW.Trod enc P w base sp held t4 v4 d4 []):
  DataW.TrodAll enc P w base sp held [t,t1,t2,t3,t4] [v,v1,v2,v3,v4] [d,d1,d2,d3,d4] []:=⟨[],[],h,mk4 h1 h2 h3 h4,rfl⟩
theorem trodAll_seven {H:Type} {enc:TypeId × Value→H} {P:Program} {w:World} {base:Nat} {spare:Nat→Bool} {held:Bool} {t t1 t2 t3 t4 t5 t6:TypeId} {args:Array Value} {ds:List (DataW H)} {ps:List MemPlace} (h:DataW.TrodAll enc P w base spare held [t,t1,t2,t3,t4,t5,t6] args.toList ds ps):
  ∃ v v1 v2 v3 v4 v5 v6 d d1 d2 d3 d4 d5 d6 p p1 p2 p3 p4 p5 p6,args = #[v,v1,v2,v3,v4,v5,v6]∧ds=[d,d1,d2,d3,d4,d5,d6]∧ps=p++p1++p2++p3++p4++p5++p6∧DataW.Trod enc P w base spare held t v d p∧DataW.Trod enc P w base spare held t1 v1 d1 p1∧DataW.Trod enc P w base spare held t2 v2 d2 p2∧DataW.Trod enc P w base spare held t3 v3 d3 p3∧DataW.Trod enc P w base spare held t4 v4 d4 p4∧DataW.Trod enc P w base spare held t5 v5 d5 p5∧DataW.Trod enc P w base spare held t6 v6 d6 p6:=by
 obtain ⟨v,vs,d,ds0,p,q,hargs,rfl,rfl,hd,hrest⟩:=trodAll_cons h
 obtain ⟨v1,vs1,d1,ds1,p1,q1,rfl,rfl,rfl,hd1,hrest1⟩:=trodAll_cons hrest
 obtain ⟨v2,vs2,d2,ds2,p2,q2,rfl,rfl,rfl,hd2,hrest2⟩:=trodAll_cons hrest1
 obtain ⟨v3,vs3,d3,ds3,p3,q3,rfl,rfl,rfl,hd3,hrest3⟩:=trodAll_cons hrest2
 obtain ⟨v4,vs4,d4,ds4,p4,q4,rfl,rfl,rfl,hd4,hrest4⟩:=trodAll_cons hrest3
 obtain ⟨v5,vs5,d5,ds5,p5,q5,rfl,rfl,rfl,hd5,hrest5⟩:=trodAll_cons hrest4
 obtain ⟨v6,vs6,d6,ds6,p6,q6,rfl,rfl,rfl,hd6,hrest6⟩:=trodAll_cons hrest5
 obtain ⟨rfl,rfl,rfl⟩:=trodAll_nil hrest6
 exact ⟨v,v1,v2,v3,v4,v5,v6,d,d1,d2,d3,d4,d5,d6,p,p1,p2,p3,p4,p5,p6,by cases args;simp_all,rfl,by simp,hd,hd1,hd2,hd3,hd4,hd5,hd6⟩
theorem mk7 {H:Type} {enc:TypeId × Value→H} {P:Program} {w:World} {base:Nat} {sp:Nat→Bool} {held:Bool} {t t1 t2 t3 t4 t5 t6:TypeId} {v v1 v2 v3 v4 v5 v6:Value} {d d1 d2 d3 d4 d5 d6:DataW H} (h:DataW.Trod enc P w base sp held t v d []) (h1:DataW.Trod enc P w base sp held t1 v1 d1 []) (h2:DataW.Trod enc P w base sp held t2 v2 d2 []) (h3:DataW.Trod enc P w base sp held t3 v3 d3 []) (h4:DataW.Trod enc P w base sp held t4 v4 d4 []) (h5:DataW.Trod enc P w base sp held t5 v5 d5 []) (h6:DataW.Trod enc P w base sp held t6 v6 d6 []):
  DataW.TrodAll enc P w base sp held [t,t1,t2,t3,t4,t5,t6] [v,v1,v2,v3,v4,v5,v6] [d,d1,d2,d3,d4,d5,d6] []:=⟨[],[],h,⟨[],[],h1,mk5 h2 h3 h4 h5 h6,rfl⟩,rfl⟩
theorem how_casesB (q:Nat) (h:q<13):((q:Nat):Int)=0∨((q:Nat):Int)=1∨((q:Nat):Int)=2∨((q:Nat):Int)=3∨((q:Nat):Int)=4∨((q:Nat):Int)=5∨((q:Nat):Int)=6∨((q:Nat):Int)=7∨((q:Nat):Int)=8∨((q:Nat):Int)=9∨((q:Nat):Int)=10∨((q:Nat):Int)=11∨((q:Nat):Int)=12:=by omega
set_option maxRecDepth 100000 in
set_option maxHeartbeats 1600000 in
theorem bentLaw_any (s t u v:ByteArray) (a b c:Int) (w:World) (hv:v.size≤maxLen) (a1 : -9223372036854775808≤a) (a2:a≤9223372036854775807) (b1 : -9223372036854775808≤b) (b2:b≤9223372036854775807) (c1 : -9223372036854775808≤c) (c2:c≤9223372036854775807) (hT:Tabs w):
  Calls Tryz.prog 6 #[.string s,.string t,.string u,.string v,.int .i64 a,.int .i64 b,.int .i64 c] w fun e w'=>e = .returned (.bool true)∧Below w.heap.size w w':=by
 unfold maxLen at hv
 have HTW:=hide (two_any s t u v b c w hT (by omega) b1 b2 c1 c2)
 have HPI:Hid (∀ w,Calls Tryz.prog 15 #[.int .i64 a,.int .i64 ((13:Nat):Int)] w fun e w'=>e = .returned (.int .i64 (pickN a 13:Nat))∧w'=w):=hide (fun w=>kpick_any a 13 w a1 a2 (by decide) (by decide))
 have hq:=pickN_lt a 13 (by decide)
 generalize pickN a 13=q at *
 clear hT a1 a2 c1 c2
 go_enter Tryz.func6,Tryz.ntmps6
 go_wp2_with fail
 refine HTW.out.mono ?_
 rintro e w1 (⟨rfl,rfl⟩ | ⟨hx1,hx2,hx3,wb,fs,fb,gb,v0,vb,l,d,v1,vb',l',d',rfl,hW⟩)
 ·clear HTW HPI
  go_wp2
  go_ret
  exact ⟨rfl,Below.refl _ _⟩
 ·have HW:=hide hW
  obtain ⟨bl,fc,F⟩:=hW.f.fb hx1
  obtain ⟨bl',gc,G⟩:=hW.g.fb hx2
  have hbd:Below w1.heap.size w1 w1.drew:=⟨rfl,rfl,rfl,Nat.le_refl _,fun _ _=>rfl⟩
  have HBD:=hide (bended_any fb gb _ _ _ _ bl bl' fc gc (q:Nat) b u w1.drew (F.after hbd) (G.after hbd) b1 b2 hx3 (how_casesB q hq) (fun w' h=>hW.f.hollow hx1 w' (hbd.trans h)))
  have d0:=hW.wld.cell (i:=0) rfl
  have d1:=hW.fls.cell (i:=0) rfl
  have d2:=hW.fls.cell (i:=1) rfl
  have hwl:=hW.wld.lt
  have hfs:=hW.fls.lt
  clear hW F G HTW hbd hx1 hx2 hx3 hq
  go_wp2
  go_region_held3 (fun w'=>w'.cell? ⟨wb,0,none⟩=some (.slice (some ⟨fs,0,none⟩) 2 2)∧w'.cell? ⟨fs,0,none⟩=some (.pointer (some ⟨fb,0,none⟩))∧w'.cell? ⟨fs,1,none⟩=some (.pointer (some ⟨gb,0,none⟩))) (refine ⟨?_,?_,?_⟩ <;> first | assumption | (exact (hb5.cell hwl).trans (by assumption)) | (exact (hb5.cell hfs).trans (by assumption))) (first | (go_at_call 15;refine (HPI.out _).mono ?_;rintro e w4 ⟨rfl,rfl⟩) | (go_at_call 14;refine HBD.out.mono ?_;rintro e w5 ⟨B,rfl,hB,hb5⟩))
  rename_i hH
  clear hH
  have hb6:Below w1.heap.size w1 w5:=(show Below w1.heap.size w1 w1.drew from ⟨rfl,rfl,rfl,Nat.le_refl _,fun _ _=>rfl⟩).trans hb5
  have hW5:=HW.out.after hb6
  have HW5:=hide hW5
  have g0:=hW5.wld.cell (i:=0) rfl
  have g1:=hW5.fls.cell (i:=0) rfl
  have hl0:0<l.length:=hW5.f.1
  have g2:=hW5.f.2.2.2.2.blk.cell (i:=0) rfl
  obtain ⟨gm,om,cm,hvm,hgm,em⟩:=hW5.f.2.2.2.2.ms.at 0 hl0
  subst hvm
  rw[Nat.add_zero] at em
  have hm0:(l.getD 0 ⟨#[]⟩).size=32:=by
   rw[List.getD_eq_getElem?_getD,List.getElem?_eq_getElem hl0]
   exact hW5.f.2.2.1 _ (List.getElem_mem hl0)
  obtain ⟨ln,hln⟩:∃ ln:Nat,l.length=ln:=⟨_,rfl⟩
  rw[hln] at g2
  have jl:(0:Int)<(ln:Int):=by omega
  have jl2:0<ln:=by omega
  have HBN:=hide (bent_any (l.getD 0 ⟨#[]⟩) B b w5 hW5.tb hm0 hB b1 b2)
  generalize l.getD 0 ⟨#[]⟩=m0 at *
  clear hW5 hb5 hb6 d0 d1 d2 HBD HPI hm0 hB hln
  go_wp2_with fail
  refine HBN.out.mono ?_
  rintro e w7 ⟨rfl,hb7⟩
  have HB7:=hide (HW5.out.be.trans (hb7.mono HW5.out.be.size))
  clear HBN hb7
  go_wp2
  go_ret
  exact ⟨rfl,HB7.out⟩
set_option maxRecDepth 100000 in
theorem bent_contract (H:Type) (enc:TypeId × Value→H) (W:World) (base:Nat) (args:Array Value) (ds gs:List (DataW H)) (before:List MemPlace)
  (hval:∀ (j:Nat) t v,Tryz.f6.params[j]? = some t→args[j]? = some v→Value.okWide Tryz.prog W .any base t v)
  (hW:DataW.Whole enc Tryz.prog Tryz.f6.params.toList Rows.bentSpec.vars false W args.toList ds gs before)
  (hL:laidMetH Tryz.prog Rows.bentRow.laid W):
  Calls Tryz.prog 6 args W fun e W'=>∃ v,e = .returned v∧Rows.bentSpec.post enc Tryz.prog Tryz.f6 false true false false W args v W':=by
 have hW':=hW
 obtain ⟨p,q,hA0,hV,rfl,hfz,hnd⟩:=hW
 have hA:DataW.TrodAll enc Tryz.prog W 0 (fun _=>true) true Tryz.f6.params.toList args.toList ds p:=hA0
 rw[Tryz.params6] at hA hval
 obtain ⟨v0,v1,v2,v3,v4,v5,v6,d0,d1,d2,d3,d4,d5,d6,p0,p1,p2,p3,p4,p5,p6,rfl,rfl,rfl,h0,h1,h2,h3,h4,h5,h6⟩:=trodAll_seven hA
 obtain ⟨rfl,rfl⟩:=trodVars_none hV
 obtain ⟨s,rfl,rfl,rfl,hs⟩:=open_text (hval 0 9 v0 rfl rfl) h0
 obtain ⟨t,rfl,rfl,rfl,ht⟩:=open_text (hval 1 9 v1 rfl rfl) h1
 obtain ⟨u,rfl,rfl,rfl,hu⟩:=open_text (hval 2 9 v2 rfl rfl) h2
 obtain ⟨v,rfl,rfl,rfl,hv⟩:=open_text (hval 3 9 v3 rfl rfl) h3
 obtain ⟨a,rfl,rfl,rfl,hia⟩:=open_intA (hval 4 3 v4 rfl rfl) h4
 obtain ⟨b,rfl,rfl,rfl,hib⟩:=open_intA (hval 5 3 v5 rfl rfl) h5
 obtain ⟨c,rfl,rfl,rfl,hic⟩:=open_intA (hval 6 3 v6 rfl rfl) h6
 clear hA0 hfz hnd
 simp only[List.append_nil] at hW'
 obtain ⟨hh,hk⟩:=tabs2 hL
 have h2:2≤W.heap.size:=World.block_lt_of_cell? W _ (hk 0 (by decide))
 refine (bentLaw_any s t u v a b c W hv (wfB hia).1 (wfB hia).2 (wfB hib).1 (wfB hib).2 (wfB hic).1 (wfB hic).2 ⟨hk,hh,h2⟩).mono fun e W' ⟨he,hb⟩=>?_
 subst he
 refine ⟨_,rfl,_,_,_,[],[],[],hW',?_,mk7 (shut_text hs) (shut_text ht) (shut_text hu) (shut_text hv) (shut_intA hia) (shut_intA hib) (shut_intA hic),rfl,hb.frame _,fun h=>by cases h⟩
 exact trodAll_mk1 (shut_bool Tryz.underlying4 _)
theorem bent_laid_met (os:Os):laidMet Tryz.prog Rows.bentRow.laid ((laidWorld Tryz.prog os).forCall (fun _ _=>0) ⟨#[],#[.string ⟨#[]⟩,.string ⟨#[]⟩,.string ⟨#[]⟩,.string ⟨#[]⟩,.int .i64 0,.int .i64 0,.int .i64 0],[]⟩).memory:=
 laidMet_of_run' 8 (by kernel_rfl) (by kernel_rfl)
theorem bent_reads (os:Os) {H:Type} (enc:TypeId × Value→H):∃ places,DataW.whole enc Tryz.prog ((laidWorld Tryz.prog os).forCall (fun _ _=>0) ⟨#[],#[.string ⟨#[]⟩,.string ⟨#[]⟩,.string ⟨#[]⟩,.string ⟨#[]⟩,.int .i64 0,.int .i64 0,.int .i64 0],[]⟩).memory Tryz.f6.params.toList Rows.bentSpec.vars false #[Value.string ⟨#[]⟩,Value.string ⟨#[]⟩,Value.string ⟨#[]⟩,Value.string ⟨#[]⟩,Value.int .i64 0,Value.int .i64 0,Value.int .i64 0].toList 8=some ([.lit (.string []),.lit (.string []),.lit (.string []),.lit (.string []),.lit (.int .i64 0),.lit (.int .i64 0),.lit (.int .i64 0)],[],places):=
 ⟨[],by kernel_rfl⟩
set_option maxRecDepth 100000 in
theorem bent_lifted (os:Os) (started:os.Started) (H:Type) (enc:TypeId × Value→H) (F:Stop.Interp):
  ReturnsInHanded {} Tryz.checked os 6 .any ((OpenSpec.ofChange Rows.bentSpec).preRow enc Tryz.prog Tryz.f6 Rows.bentRow.domain false Rows.bentRow.laid) (((OpenSpec.ofChange Rows.bentSpec).at F).post enc Tryz.prog Tryz.f6 false true false false):=by
 obtain ⟨places,hx⟩:=bent_reads os enc
 refine returnsInHanded_of_row (C:=Tryz.checked) (s:=OpenSpec.ofChange Rows.bentSpec) own started (by kernel_rfl) Tryz.func6
  (witness_row_at (enc:=enc) (C:=Tryz.checked) false (laidWorld Tryz.prog os) #[.string ⟨#[]⟩,.string ⟨#[]⟩,.string ⟨#[]⟩,.string ⟨#[]⟩,.int .i64 0,.int .i64 0,.int .i64 0] rfl (by kernel_rfl) (by kernel_rfl) (by kernel_rfl)
   (OpenSpec.preRow_of_cond 8 hx (by kernel_rfl) (fun k hk=>by cases hk) (by kernel_rfl) (bent_laid_met os))) ?_
 intro W base args ds gs before hval hW _ _ _ hL _ _
 exact bent_contract H enc W base args ds gs before hval hW hL
theorem bent_j1:Tryz.prog.inPlace 6=Rows.bentRow.inPlace:=by kernel_rfl
theorem bent_j2:Tryz.prog.unfollowed 6=Rows.bentRow.unfollowed:=by kernel_rfl
theorem bent_j3:Tryz.prog.recurses 6=Rows.bentRow.recurses:=by kernel_rfl
theorem bent_j4:Tryz.prog.varsNamed 6=Rows.bentRow.named:=by kernel_rfl
theorem bent_j:joinedFacts Tryz.prog 6 Tryz.f6 (OpenSpec.ofChange Rows.bentSpec).bare Rows.bentRow=true:=by
 unfold joinedFacts
 rw[bent_j1,bent_j2,bent_j3,bent_j4]
 kernel_rfl
theorem bent_said:Rows.BentSaid:=
 OpenClaim.holds_of_cond 6 Tryz.f6 rfl rfl rfl rfl rfl rfl rfl ⟨rfl,rfl,rfl,rfl,rfl⟩ rfl rfl rfl rfl rfl (by kernel_rfl) Tryz.func6 bent_j
  (of_decide_eq_true (by kernel_rfl)) (by unfold Func.isWrapper;first | (rw[if_pos (by decide +kernel)];kernel_rfl) | (rw[if_neg (by decide +kernel)];exact ⟨rfl,rfl⟩))
  (fun os started H enc _ F=>by rw[OpenClaim.pre_eq_preRow];exact bent_lifted os started H enc F)
theorem bent_plain (f : FuncId) (fn : Func) (hf : Tryz.pinned.checked.prog.funcNamed "strongbox/strongboxkeep.Bent" = some f) (hfn : Tryz.pinned.checked.prog.funcs[f]? = some fn) :
  false = Tryz.pinned.checked.prog.looks []∧∀ (j:Nat) t,fn.params[j]? = some t→Tryz.pinned.checked.prog.wantsStandIn t=false:=by
 obtain rfl : f = 6 := Option.some.inj ((show Tryz.prog.funcNamed "strongbox/strongboxkeep.Bent" = some 6 by kernel_rfl).symm.trans hf) |>.symm
 obtain rfl:fn = Tryz.f6:=(Option.some.inj (Tryz.func6.symm.trans hfn)).symm
 refine ⟨by kernel_rfl,fun j t ht=>?_⟩
 rw[Tryz.params6] at ht
 have hm:t=9∨t=3:=by simpa using Array.mem_of_getElem? ht
 rcases hm with rfl | rfl
 ·exact (show Tryz.prog.wantsStandIn 9=false by kernel_rfl)
 ·exact (show Tryz.prog.wantsStandIn 3=false by kernel_rfl)
theorem bent_card:Rows.BentCardSaid:=
 Claim7.holds_tied_plain_at .later [] _ _ _ _ (bent_said) (fun _ h=>by cases h) (by kernel_rfl) (fun _ h=>by cases h) bent_row_tie rfl ⟨rfl,rfl⟩ (by kernel_rfl) rfl bent_plain (by kernel_rfl)
end Go.Proofs.YtoifalcpfnacnaaGreatDoor
