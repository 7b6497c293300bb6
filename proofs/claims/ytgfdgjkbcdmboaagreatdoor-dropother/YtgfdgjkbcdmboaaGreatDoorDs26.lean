/- What a store tells as a node by digests (Node), as a contract. -/
import Derived.Test.YtgfdgjkbcdmboaaGreatDoorDs25
namespace Go.Proofs.YtgfdgjkbcdmboaaGreatDoor
variable {cs:Lz}
variable {fr:List Nat}
variable {g room:Nat}
variable {mk:Bool}
variable {ss:List Sp}
variable {v vf vp:Value}
variable {w:World}
variable {zs:Lq}
set_option maxHeartbeats 4000000
set_option maxRecDepth 20000
open Go.RowKit
def vNd (mk:Bool) (ca:Int→Ce) (h:Int):Lq:=if (ca h).kind=1 then nd 1 (ca h).key (vaD (ca h).bs) z32 z32 else if (ca h).kind=2 then nd 2 z32 z32 (vDg mk ca ((ca h).l:Int)) (vDg mk ca ((ca h).r:Int)) else nd 0 z32 z32 z32 z32
theorem Ydw {ct:Int→Nat} {ca:Int→Ce} (V:Vw w v mk ct ca) (h:Int):(vNd mk ca h).length=129∧∃k a b c d,vNd mk ca h=nd k a b c d∧Nd k a b c d:=by
 have z:=Zcb;have hq:∃k a b c d,vNd mk ca h=nd k a b c d∧Nd k a b c d:=by
  unfold vNd;split
  ·exact ⟨_,_,_,_,_,rfl,by omega,by omega,(V.ok h).hk.1,Zp _,rfl,rfl,(V.ok h).hk.2,Zam _,z,z⟩
  ·split
   ·exact ⟨_,_,_,_,_,rfl,by omega,by omega,rfl,rfl,(Zej V _).1,(Zej V _).1,z,z,(Zej V _).2,(Zej V _).2⟩
   ·exact ⟨_,_,_,_,_,rfl,by omega,by omega,rfl,rfl,rfl,rfl,z,z,z,z⟩
 obtain ⟨k,a,b,c,d,e,n⟩:=hq;exact ⟨by rw [e];exact n.length,k,a,b,c,d,e,n⟩
theorem Zaz (h:zs.length=129):(Tryz.prog.info? 145).map (·.size)=some (B zs).size:=by rw [Zj,h];kernel_rfl
theorem Zcz:∀w,(zeroValue 145).run Tryz.prog w=.ok (.agg (B (nd 0 z32 z32 z32 z32))) w:=zero_of_info (n:=129) (by kernel_rfl) |>.1
theorem Zuv:Value.agg Tryz.zeroCells145=.agg (B (nd 0 z32 z32 z32 z32)):=by kernel_rfl
theorem Yca {ct:Int→Nat} {ca:Int→Ce} (V:Vw w v mk ct ca) (h:Int) (hL:Laid w):Kc 102 #[v,.int .i64 h] w fun e w'=>e=.returned (.agg (B (vNd mk ca h)))∧Kb w w':=by
 have HA:Hid (Kr w 111 #[v,.int .i64 h] (.agg (cz (ca h)).toArray)):=fun w' hb=>V.atv w' h hb
 have HVA:Hid (Kr w 139 #[(ca h).val] (.agg (B (vaD (ca h).bs)))):=fun w' hb=>Zmt _ _ w' ((V.val h).grow hb) (hL.grow hb) (by have:=V.len h;omega)
 have HDG:Hid (∀w' q,Kb w w'→Kc 74 #[v,.int .i64 q] w' fun e w''=>e=.returned (.agg (B (vDg mk ca q)))∧Below w'.heap.size w' w''):=fun w' q hb=>Zif (V.grow hb) q (hL.grow hb)
 have HO:=Za (V.ok h);have hlen:=(Ydw V h).1;have HLl:=Za (Zej V ((ca h).l:Int)).1;have HLr:=Za (Zej V ((ca h).r:Int)).1;have hvs:=(V.ok h).vs;have hV:vNd mk ca h=if (ca h).kind=1 then nd 1 (ca h).key (vaD (ca h).bs) z32 z32 else if (ca h).kind=2 then nd 2 z32 z32 (vDg mk ca ((ca h).l:Int)) (vDg mk ca ((ca h).r:Int)) else nd 0 z32 z32 z32 z32:=rfl
 generalize vNd mk ca h=N at hV hlen ⊢;obtain ⟨c,hc⟩:∃c,c=ca h:=⟨_,rfl⟩;rw [← hc] at HA HVA HO HLl HLr hV hvs;have HNL:=Za hlen;obtain ⟨sa,sk,hsv⟩:=hvs;have HSV:=Za hsv;clear hc hL hlen V
 by_cases h1:c.kind=1
 ·rw [if_pos h1] at hV;have HBU:Hid (Tryz.prog.built 145 [(0,.int .u8 1),(1,.agg (B c.key)),(2,.agg (B (vaD c.bs)))]=some (B N)):=by
   show _=_;rw [hV];exact Zlc c.key (vaD c.bs) HO.out.hk.1 (Zp _)
  have HVA2:Hid (Kr w 139 #[.slice sa c.bs.length sk] (.agg (B (vaD c.bs)))):=by
   rw [← hsv];exact HVA
  have HK:=Za h1;clear hV h1 hsv HVA HDG HLl HLr;generalize vaD c.bs=VD at HBU HVA2;go_enter Tryz.func102,Tryz.ntmps102
  go_wp2_with (first
  |((with_reducible refine Zw 4 ?_);refine Zf _ rfl _ rfl _ Zcz ?_;intro w1 b4 hg4 hl4 B4 b1;have HB4:=Za B4;have Hg4:=Za hg4;have Hl4:=Za hl4;clear B4 hg4 hl4)
  |(go_at_call 111;refine (HA.out _ b1).mono ?_;rintro e w2 ⟨rfl,b2⟩;have HB4a:=Za (HB4.out.grow b2);have Hb2:=Za (Zb b1 b2);clear b2)
  |((with_reducible refine Zw 5 ?_);refine Zf _ rfl _ rfl _ Zai ?_;intro w3 b5 hg5 hl5 B5 b3;have HB4b:=Za (HB4a.out.grow b3);have HB5:=Za B5;have Hg5:=Za hg5;have Hb3:=Za b3;have hne:b4≠b5:=(by have:=HB4a.out.lt;omega);clear B5 hg5 hl5 b3)
  |((with_reducible refine Zah 5 ?_);refine Zg _ rfl _ _ _ rfl b5 _ (cz c).toArray rfl rfl HB5.out (Zcx _ (Zaq HO.out)) (Zkc _ (Zaq HO.out)) (all_oneCell_toArray (Zcq HO.out)) ?_;intro w4 B6 r6;have HB4c:=Za (HB4b.out.kept r6 hne);have HB6:=Za B6;have Hb4:=Za (Ze (Zb Hb2.out Hb3.out) r6 (by have:=Hg5.out;have:=Hb2.out.size;omega));have c7:=B6.cell 32;simp only [List.getElem?_toArray] at c7;rw [(Zav c HO.out).1,HK.out] at c7;clear B6 r6))
  have HBd:Hid (Kb w4 w4.drew):=below_drewN (Below.refl _ _) 1;have HBL:Hid (∀w',Kb w4 w'→Kb w w'):=fun w' hb=>Zb Hb4.out hb
  have HB4d:Hid (∀w',Kb w4 w'→Blk w' b4 145 (B (nd 0 z32 z32 z32 z32))):=fun w' hb=>HB4c.out.grow hb
  have HKR:Hid (∀w',Kb w4 w'→w'.rangeAt b5 35 (c.key.map (Value.int .u8))):=fun w' hb=>(Yea c HO.out).range (HB6.out.grow hb)
  have HVR:Hid (∀w',Kb w4 w'→w'.cell? ⟨b5,67,none⟩=some (.slice sa c.bs.length sk)):=fun w' hb=>by
   rw [(HB6.out.grow hb).cell,← HSV.out];simpa using (Zav c HO.out).2.2.2.1
  clear c7;refine Zx (S:=fun w'=>Kb w4 w') 6 (by kernel_rfl) (HBd.out) (fun hHeld=>?_);refine tlp 0 (.pointer (some ⟨b5,35,none⟩)) hHeld ?_;simp only [zq];refine tlg 1 (.agg (B c.key)) rfl (yieldsIf_load_mid rfl 34 (.tmp 13) rfl b5 35 rfl (c.key.map (Value.int .u8)) _ (fun w hS=>HKR.out _ hS) Tryz.underlying34 rfl (by rw [List.length_map,HO.out.hk.1];exact Zi)) hHeld ?_;simp only [zq];refine tlp 2 (.pointer (some ⟨b5,67,none⟩)) hHeld ?_;simp only [zq];refine tlg 3 ((.slice sa c.bs.length sk)) rfl (Or.inl ⟨by rfl,fun w hS=>by (have q1:=HVR.out _ hS;go_simp)⟩) hHeld ?_;simp only [zq];refine Zad (i:=4) rfl (by kernel_rfl) (fun KQ hK=>?_);go_simp;refine (HVA2.out _ (HBL.out _ hHeld)).mono ?_;rintro e z1 ⟨rfl,a1⟩;refine hK.out _ _ (Zb hHeld a1) (fun hHeld=>?_);clear hK KQ;refine tlg 5 (.agg (B N)) rfl (Or.inl ⟨by rfl,fun w hS=>Zbw _ _ 145 _ (by rfl) _ (by rw [List.map_toArray];exact HBU.out) w⟩) hHeld ?_;simp only [zq];refine Zaf rfl (by kernel_rfl) (by kernel_rfl) (fun KQ hK=>?_);refine Zbr _ rfl _ _ _ rfl b4 _ (B N) rfl rfl (HB4d.out _ hHeld) (Zaz HNL.out) (by rw [Zj,Zj,HNL.out];rfl) (Zay _) ?_;intro z4 B9 r9;refine hK.out _ _ ?_;clear hK KQ;go_wp2
  exact bodyPost_ret (v:=.agg (B N)) (results_cell_row rfl _ _ b4 _ _ _ _ rfl B9 Tryz.underlying145 rfl (Zaz HNL.out)) rfl ⟨rfl,Ze (HBL.out _ hHeld) r9 Hg4.out⟩
 ·rw [if_neg h1] at hV;have n1:(c.kind == 1)=false:=by simp [h1]
  by_cases h2:c.kind=2
  ·rw [if_pos h2] at hV;have HBU:Hid (Tryz.prog.built 145 [(0,.int .u8 2),(3,.agg (B (vDg mk ca (c.l:Int)))),(4,.agg (B (vDg mk ca (c.r:Int))))]=some (B N)):=by
    show _=_;rw [hV];exact Zjv _ _ HLl.out HLr.out
   have HDl:Hid (Kr w 74 #[v,.int .i64 (c.l:Int)] (.agg (B (vDg mk ca (c.l:Int))))):=fun w' hb=>HDG.out w' _ hb
   have HDr:Hid (Kr w 74 #[v,.int .i64 (c.r:Int)] (.agg (B (vDg mk ca (c.r:Int))))):=fun w' hb=>HDG.out w' _ hb
   have HK:=Za h2;generalize vDg mk ca (c.l:Int)=DL at HBU HDl;generalize vDg mk ca (c.r:Int)=DR at HBU HDr;clear hV h1 n1 h2 HVA HDG HLl HLr hsv HSV;go_enter Tryz.func102,Tryz.ntmps102
   go_wp2_with (first
   |((with_reducible refine Zw 4 ?_);refine Zf _ rfl _ rfl _ Zcz ?_;intro w1 b4 hg4 hl4 B4 b1;have HB4:=Za B4;have Hg4:=Za hg4;have Hl4:=Za hl4;clear B4 hg4 hl4)
   |(go_at_call 111;refine (HA.out _ b1).mono ?_;rintro e w2 ⟨rfl,b2⟩;have HB4a:=Za (HB4.out.grow b2);have Hb2:=Za (Zb b1 b2);clear b2)
   |((with_reducible refine Zw 5 ?_);refine Zf _ rfl _ rfl _ Zai ?_;intro w3 b5 hg5 hl5 B5 b3;have HB4b:=Za (HB4a.out.grow b3);have HB5:=Za B5;have Hg5:=Za hg5;have Hb3:=Za b3;have hne:b4≠b5:=(by have:=HB4a.out.lt;omega);clear B5 hg5 hl5 b3)
   |((with_reducible refine Zah 5 ?_);refine Zg _ rfl _ _ _ rfl b5 _ (cz c).toArray rfl rfl HB5.out (Zcx _ (Zaq HO.out)) (Zkc _ (Zaq HO.out)) (all_oneCell_toArray (Zcq HO.out)) ?_;intro w4 B6 r6;have HB4c:=Za (HB4b.out.kept r6 hne);have HB6:=Za B6;have Hb4:=Za (Ze (Zb Hb2.out Hb3.out) r6 (by have:=Hg5.out;have:=Hb2.out.size;omega));have c7:=B6.cell 32;simp only [List.getElem?_toArray] at c7;rw [(Zav c HO.out).1,HK.out] at c7;clear B6 r6))
   have HBd:Hid (Kb w4 w4.drew):=below_drewN (Below.refl _ _) 1;have HBL:Hid (∀w',Kb w4 w'→Kb w w'):=fun w' hb=>Zb Hb4.out hb
   have HB4d:Hid (∀w',Kb w4 w'→Blk w' b4 145 (B (nd 0 z32 z32 z32 z32))):=fun w' hb=>HB4c.out.grow hb
   have HLR:Hid (∀w',Kb w4 w'→w'.cell? ⟨b5,69,none⟩=some (.int .i64 (c.l:Int))):=fun w' hb=>by
    rw [(HB6.out.grow hb).cell];simpa using (Zav c HO.out).2.2.2.2.2.1
   have HRR:Hid (∀w',Kb w4 w'→w'.cell? ⟨b5,70,none⟩=some (.int .i64 (c.r:Int))):=fun w' hb=>by
    rw [(HB6.out.grow hb).cell];simpa using (Zav c HO.out).2.2.2.2.2.2
   clear c7;refine Zx (S:=fun w'=>Kb w4 w') 9 (by kernel_rfl) (HBd.out) (fun hHeld=>?_);refine tlp 0 v hHeld ?_;simp only [zq];refine tlp 1 (.pointer (some ⟨b5,69,none⟩)) hHeld ?_;simp only [zq];refine tlg 2 (.int .i64 (c.l:Int)) rfl (Or.inl ⟨by rfl,fun w hS=>by (have q1:=HLR.out _ hS;go_simp)⟩) hHeld ?_;simp only [zq];refine tlp 4 v hHeld ?_;simp only [zq];refine tlp 5 (.pointer (some ⟨b5,70,none⟩)) hHeld ?_;simp only [zq];refine tlg 6 (.int .i64 (c.r:Int)) rfl (Or.inl ⟨by rfl,fun w hS=>by (have q1:=HRR.out _ hS;go_simp)⟩) hHeld ?_;simp only [zq];refine Zad (i:=3) rfl (by kernel_rfl) (fun KQ hK=>?_);go_simp;refine (HDl.out _ (HBL.out _ hHeld)).mono ?_;rintro e z1 ⟨rfl,a1⟩;refine hK.out _ _ (Zb hHeld a1) (fun hHeld=>?_);clear hK KQ;refine Zad (i:=7) rfl (by kernel_rfl) (fun KQ hK=>?_);go_simp;refine (HDr.out _ (HBL.out _ hHeld)).mono ?_;rintro e z2 ⟨rfl,a2⟩;refine hK.out _ _ (Zb hHeld a2) (fun hHeld=>?_);clear hK KQ;refine tlg 8 (.agg (B N)) rfl (Or.inl ⟨by rfl,fun w hS=>Zbw _ _ 145 _ (by rfl) _ (by rw [List.map_toArray];exact HBU.out) w⟩) hHeld ?_;simp only [zq];refine Zaf rfl (by kernel_rfl) (by kernel_rfl) (fun KQ hK=>?_);refine Zbr _ rfl _ _ _ rfl b4 _ (B N) rfl rfl (HB4d.out _ hHeld) (Zaz HNL.out) (by rw [Zj,Zj,HNL.out];rfl) (Zay _) ?_;intro z4 B9 r9;refine hK.out _ _ ?_;clear hK KQ;go_wp2
   exact bodyPost_ret (v:=.agg (B N)) (results_cell_row rfl _ _ b4 _ _ _ _ rfl B9 Tryz.underlying145 rfl (Zaz HNL.out)) rfl ⟨rfl,Ze (HBL.out _ hHeld) r9 Hg4.out⟩
  ·rw [if_neg h2] at hV;have n2:(c.kind == 2)=false:=by simp [h2]
   have HVN:=Za hV;obtain ⟨k,hk⟩:∃k,k=c.kind:=⟨_,rfl⟩;have HK:=Za hk;rw [← hk] at n1 n2;clear hV h1 h2 HVA HDG HLl HLr hsv HSV hk;go_enter Tryz.func102,Tryz.ntmps102
   go_wp2_with (first
   |((with_reducible refine Zw 4 ?_);refine Zf _ rfl _ rfl _ Zcz ?_;intro w1 b4 hg4 hl4 B4 b1;have HB4:=Za B4;have Hg4:=Za hg4;have Hl4:=Za hl4;clear B4 hg4 hl4)
   |(go_at_call 111;refine (HA.out _ b1).mono ?_;rintro e w2 ⟨rfl,b2⟩;have HB4a:=Za (HB4.out.grow b2);have Hb2:=Za (Zb b1 b2);clear b2)
   |((with_reducible refine Zw 5 ?_);refine Zf _ rfl _ rfl _ Zai ?_;intro w3 b5 hg5 hl5 B5 b3;have HB4b:=Za (HB4a.out.grow b3);have HB5:=Za B5;have Hg5:=Za hg5;have Hb3:=Za b3;have hne:b4≠b5:=(by have:=HB4a.out.lt;omega);clear B5 hg5 hl5 b3)
   |((with_reducible refine Zah 5 ?_);refine Zg _ rfl _ _ _ rfl b5 _ (cz c).toArray rfl rfl HB5.out (Zcx _ (Zaq HO.out)) (Zkc _ (Zaq HO.out)) (all_oneCell_toArray (Zcq HO.out)) ?_;intro w4 B6 r6;have HB4c:=Za (HB4b.out.kept r6 hne);have HB6:=Za B6;have Hb4:=Za (Ze (Zb Hb2.out Hb3.out) r6 (by have:=Hg5.out;have:=Hb2.out.size;omega));have c7:=B6.cell 32;simp only [List.getElem?_toArray] at c7;rw [(Zav c HO.out).1,← HK.out] at c7;clear B6 r6)
   |((with_reducible refine Zah 4 ?_);refine Zg _ rfl _ _ _ rfl b4 _ (B N) rfl (by rw [HVN.out];exact Zuv) HB4c.out (Zaz HNL.out) (by rw [Zj,Zj,HNL.out];rfl) (Zay _) ?_;intro z4 B9 r9))
   exact bodyPost_ret (v:=.agg (B N)) (results_cell_row rfl _ _ b4 _ _ _ _ rfl B9 Tryz.underlying145 rfl (Zaz HNL.out)) rfl ⟨rfl,Ze Hb4.out r9 Hg4.out⟩
def HnPost (hs:List Nat) (w:World) (e:Ending) (w':World):Prop:=
 ∃a c,e=.returned (.slice a hs.length c)∧w'.ownsRow w.heap.size 3 1 (.slice a hs.length c) hs.length (nats hs)∧Kb w w'
theorem Yiw (h:Rs w g vp vf room ss fr) (R:Rel7 cs [] [] ss) (W:Wf cs []) (h6:cs.length≤5000):Kc 40 #[.pointer (some ⟨g,0,none⟩)] w (HnPost (slotsOf (cs.map pl)) w):=by
 have HC:Hid (∀w',Kb w w'→w'.cell? ⟨g,0,none⟩=some (.bool true)∧w'.cell? ⟨g,2,none⟩=some vp):=fun w' hb=>⟨(h.grow hb).c0,(h.grow hb).c2⟩
 obtain ⟨pa,pc,hvp⟩:=Zo h.sps;obtain ⟨n,hn⟩:∃n,n=ss.length:=⟨_,rfl⟩;rw [← hn] at hvp;have hn6:n≤5000:=by rw [hn,R.len];exact h6
 rw [hvp] at HC;have HH:Hid (∀w' (k:Nat) (b:Bool),Kb w w'→(b=true↔0<cnt (cs.map pl) k)→Kc 84 #[.pointer (some ⟨g,0,none⟩),.int .i64 ((k:Int)+1)] w' fun e w''=>e=.returned (.bool b)∧w''=w'):=fun w' k b hb hbk=>by
  have:=Zbn (h.grow hb) ((k:Int)+1);rw [Zev] at this;rwa [show decide ((spAt ss k).kind≠0)=b by
   have h1:=R.inn W k;rw [Zan] at hbk;cases b with
   | true=>simp;exact h1.2 (hbk.1 rfl)
   | false=>
    simp;apply Classical.byContradiction;intro hne;have:=hbk.2 (h1.1 hne);cases this] at this
 have HPost:Hid (∀(hs:List Nat) (a:Option Addr) (m c:Nat) w',m=hs.length→hs=slotsOf (cs.map pl)→w'.ownsRow w.heap.size 3 1 (.slice a m c) m (nats hs)→Kb w w'→HnPost (slotsOf (cs.map pl)) w (.returned (.slice a m c)) w'):=fun hs a m c w' e1 e2 o b=>by
  subst e1;subst e2;exact ⟨a,c,rfl,o,b⟩
 generalize HnPost (slotsOf (cs.map pl)) w=PP at HPost ⊢;have HLN:Hid (n=(cs.map pl).length):=by rw [hn,List.length_map];exact R.len
 clear h R W h6 hvp hn;go_enter Tryz.func40,Tryz.ntmps40
 go_wp2_with fail
 go_loopw [3,4] (fun s i wr=>∃(k m:Nat) (hs:List Nat) (sa:Option Addr) (sc:Nat),k≤n∧m≤k∧i=.int .i64 ((k:Int)+1)∧s=.slice sa m sc∧Hid (m=hs.length)∧Hid (hs=slotsK (cs.map pl) k)∧Hid (wr.ownsRow w.heap.size 3 1 (.slice sa m sc) m (nats hs))∧Hid (Kb w wr)) (fun _ i _=>5100-(intOf i).toNat)
 case atStart=>exact ⟨0,0,[],none,0,by omega,by omega,rfl,rfl,rfl,rfl,World.ownsRow_nil _ _ _ _,Below.refl _ _⟩
 case round=>
  obtain ⟨k,m,hs,sa,sc,hk,hmk,rfl,rfl,hm,hsl,ho,hbw⟩:=hrel;obtain ⟨cz0,cz2⟩:=HC.out _ hbw.out
  by_cases hlt:k<n
  ·have z1:(k:Int)+1≤(n:Int):=by omega
   have hwk:wrap64 ((k:Int)+1+1)=(k:Int)+1+1:=Go.IntWalk.wrap64_in _ (by omega)
   by_cases hc:0<cnt (cs.map pl) k
   ·have HHk:=Za (HH.out wr k true hbw.out (by simp [hc]));have HS2:Hid (hs++[k+1]=slotsK (cs.map pl) (k+1)):=by show _=_;rw [Zhb _ _ hc,hsl.out]
    obtain ⟨yk,hyk⟩:∃y:Int,y=(k:Int)+1:=⟨_,rfl⟩;have HYK:=Za hyk;have HO1:=Za (Zn ho.out (Zh wr (.cells #[.int .i64 ((k:Int)+1)] 3)));clear hc hyk
    go_wp2_with (first
     |(go_at_call 83;refine (Zab g _ cz0).mono ?_;rintro e w' ⟨rfl,hx⟩;rw [hx];clear hx w')
     |(go_at_call 84;refine HHk.out.mono ?_;rintro e w' ⟨rfl,hx⟩;rw [hx];clear hx w')
     |(at_builtin;refine Zax _ rfl _ _ _ rfl w.heap.size 3 1 8 Tryz.underlying30 Zak (by omega) _ m (nats hs) rfl HO1.out wr.heap.size [Value.int .i64 ((k:Int)+1)] rfl (Blk.new _ _ _) rfl (by intro u hu;simp at hu;subst hu;rfl) (by simp only [maxLen];omega) (by omega) (Nat.le_trans hbw.out.size (by simp)) ?_;intro a4 c4 w4 o4 g4;have HO4:=Za o4;have HB4:=Za (Zal (Zb hbw.out (Zh wr (.cells #[.int .i64 ((k:Int)+1)] 3))) HO1.out (Nat.le_refl _) g4);clear o4 g4))
    have ho4:=HO4.out;rw [show ((k:Int)+1)=((k+1:Nat):Int) by omega,← Zau] at ho4;exact ⟨⟨k+1,m+1,hs++[k+1],a4,c4,by omega,by omega,by simp,rfl,by rw [List.length_append,List.length_singleton,← hm.out];exact rfl,HS2,Za ho4,HB4⟩,by simp [intOf];omega⟩
   ·have HHk:=Za (HH.out wr k false hbw.out (by simp [hc]));have HS2:Hid (hs=slotsK (cs.map pl) (k+1)):=by show _=_;rw [Zir _ _ hc,hsl.out]
    clear hc
    go_wp2_with (first
     |(go_at_call 83;refine (Zab g _ cz0).mono ?_;rintro e w' ⟨rfl,hx⟩;rw [hx];clear hx w')
     |(go_at_call 84;refine HHk.out.mono ?_;rintro e w' ⟨rfl,hx⟩;rw [hx];clear hx w'))
    exact ⟨⟨k+1,m,hs,sa,sc,by omega,by omega,by simp,rfl,hm,HS2,ho,hbw⟩,by simp [intOf];omega⟩
  ·obtain rfl:k=n:=by omega
   have z1: ¬(k:Int)+1≤(k:Int):=by omega
   go_wp2_with (first
    |(go_at_call 83;refine (Zab g _ cz0).mono ?_;rintro e w' ⟨rfl,hx⟩;rw [hx];clear hx w'))
   exact HPost.out hs sa m sc _ hm.out (by rw [hsl.out,slotsOf,← HLN.out]) ho.out hbw.out
theorem Yit (h:Rs w g vp vf room ss fr) (R:Rel7 cs [] [] ss) (W:Wf cs []) (h6:cs.length≤5000):Kc 37 #[.pointer (some ⟨g,0,none⟩)] w fun e w'=>e=.returned (.int .i64 (noc cs:Int))∧Kb w w':=by
 have HH:=Za (Yiw h R W h6);have hl:(slotsOf (cs.map pl)).length=noc cs:=Zht _;have HE:Hid (Kc 40 #[.pointer (some ⟨g,0,none⟩)] w fun e w'=>∃a c,e=.returned (.slice a (noc cs) c)∧Kb w w'):=HH.out.mono fun e w' ⟨a,c,e1,_,b⟩=>⟨a,c,by rw [← hl];exact e1,b⟩
 generalize noc cs=n at HE ⊢;clear h R W h6 HH hl;go_enter Tryz.func37,Tryz.ntmps37
 go_wp2_with (go_at_call 40;refine HE.out.mono ?_;rintro e w1 ⟨a,c,rfl,b1⟩)
 go_ret;exact ⟨rfl,b1⟩
theorem Yfx (h:Rs w g vp vf room ss fr) (R:Rel7 cs [] [] ss) (W:Wf cs []) (h6:cs.length≤60) (q:Int):Kc 77 #[.pointer (some ⟨g,0,none⟩),.int .i64 q] w fun e w'=>e=.returned (.agg (B (vDg true (cat cs) q)))∧Kb w w':=by
 have HC:Hid (∀w',Kb w w'→w'.cell? ⟨g,0,none⟩=some (.bool true)):=fun w' hb=>(h.grow hb).c0
 have hS:=Zbv R W q
 by_cases hq0:q=0
 ·subst hq0;have HD:Hid (vDg true (cat cs) 0=dig [0]):=rfl;rw [HD.out];have HE:Hid (∀w',Kc 134 #[] w' (DigPost [0] w')):=fun w'=>Zhv w'
  have HSZ:Hid ((B (dig [0])).size=32):=by rw [Zj];exact Zp _
  generalize hDD:dig [0]=D at HSZ ⊢;have HE':Hid (∀w',Kc 134 #[] w' fun e w''=>e=.returned (.agg (B D))∧Below w'.heap.size w' w''):=by rw [← hDD];exact HE
  clear h R W hS HD hDD HE;go_enter Tryz.func77,Tryz.ntmps77
  go_wp2_with (first
   |((with_reducible refine Zw 4 ?_);refine Zf _ rfl _ rfl _ Zat ?_;intro w1 b4 hg4 hl4 B4 b1;have HB4:=Za B4;have Hg4:=Za hg4;have Hb1:=Za b1;clear B4 hg4 hl4 b1)
   |(go_at_call 83;refine (Zab g _ (HC.out _ Hb1.out)).mono ?_;rintro e w' ⟨rfl,hx⟩;rw [hx];clear hx w')
   |(go_at_call 134;refine (HE'.out _).mono ?_;rintro e w2 ⟨rfl,b2⟩;have B4':=Za (HB4.out.grow b2);have Hb2:=Za b2;clear b2)
   |((with_reducible refine Zah 4 ?_);refine Zg _ rfl _ _ _ rfl b4 _ (B D) rfl rfl B4'.out (by rw [HSZ.out];exact Zu) (by rw [HSZ.out,Zj];simp) (Zay _) ?_;intro w3 B5 g3))
  exact bodyPost_ret (v:=.agg (B D)) (results_cell_row rfl _ _ b4 _ _ _ _ rfl B5 Tryz.underlying121 rfl (by rw [HSZ.out];exact Zu)) rfl ⟨rfl,Ze (Zb Hb1.out Hb2.out) g3 Hg4.out⟩
 ·have hb0:(q == 0)=false:=by simp [hq0]
  have HD:vDg true (cat cs) q=(cat cs q).dig:=by simp [vDg,hq0]
  rw [HD];have HH:Hid (∀w',Kb w w'→Kc 84 #[.pointer (some ⟨g,0,none⟩),.int .i64 q] w' fun e w''=>e=.returned (.bool (decide ((sat ss q).kind≠0)))∧w''=w'):=fun w' hb=>Zbn (h.grow hb) q
  rcases Zlj W q with ⟨k0,ez⟩ | ⟨n,T,rfl,n1,n2,hT,hce,hk⟩
  ·rw [show decide ((sat ss q).kind≠0)=false by rw [hS.kind,k0];rfl] at HH;rw [ez];have HBU:Hid (Tryz.prog.built 121 []=some (B zc.dig)):=by show _=_;kernel_rfl
   have HSZ:Hid ((B zc.dig).size=32):=rfl;generalize zc.dig=D at HBU HSZ ⊢;clear h R W hS HD k0 ez hq0;go_enter Tryz.func77,Tryz.ntmps77
   go_wp2_with (first
    |((with_reducible refine Zw 4 ?_);refine Zf _ rfl _ rfl _ Zat ?_;intro w1 b4 hg4 hl4 B4 b1;have HB4:=Za B4;have Hg4:=Za hg4;have Hb1:=Za b1;clear B4 hg4 hl4 b1)
    |(go_at_call 84;refine (HH.out _ Hb1.out).mono ?_;rintro e w' ⟨rfl,hx⟩;rw [hx];clear hx w')
    |((with_reducible refine Zzz ?_);refine Zar _ rfl _ _ rfl _ (by rw [List.map_toArray];exact HBU.out) ?_)
    |((with_reducible refine Zah 4 ?_);refine Zg _ rfl _ _ _ rfl b4 _ (B D) rfl rfl HB4.out (by rw [HSZ.out];exact Zu) (by rw [HSZ.out,Zj];simp) (Zay _) ?_;intro w3 B5 g3))
   exact bodyPost_ret (v:=.agg (B D)) (results_cell_row rfl _ _ b4 _ _ _ _ rfl B5 Tryz.underlying121 rfl (by rw [HSZ.out];exact Zu)) rfl ⟨rfl,Ze Hb1.out g3 Hg4.out⟩
  ·rw [show decide ((sat ss (n:Int)).kind≠0)=true by rw [hS.kind];rcases hk with k | k <;> simp [k]] at HH;have ok:=Zbe W T n hT;have hes:sdC cs n=ce cs (n-1):=if_neg (by omega);have hdd:sdD cs n=(ce cs (n-1)).dig:=if_neg (by omega);obtain ⟨dd,hd256,hdep,hdig,hsam⟩:∃dd:Nat,dd≤256∧max (vDp true (cat cs (n:Int))) 0=(dd:Int)∧(cat cs (n:Int)).dig=rt (256-dd) dd T.ents∧SamE T.ents dd:=by
    rw [hce] at hk ⊢;rcases hk with k | k
    ·refine ⟨0,by omega,?_,?_,fun a _ b _ j hj=>by omega⟩
     ·unfold vDp;rw [if_pos rfl,if_neg (by omega)];rfl
     ·rw [← hdd];exact ok.dig 0 (fun e=>by rw [hes] at e;omega)
    ·have hdp:(ce cs (n-1)).dp<256:=by
      rcases W.tr (n-1) n2 with hl | hi
      ·have:=hl.kind;omega
      ·exact hi.dp
     refine ⟨(ce cs (n-1)).dp,by omega,?_,?_,fun a ha b hb j hj=>?_⟩
     ·unfold vDp;rw [if_pos rfl,if_pos k];omega
     ·rw [← hdd];exact ok.dig _ (fun _=>by rw [hes])
     ·rw [ok.share _ (by omega) (fun _=>Nat.le_refl _) a ha j hj,ok.share _ (by omega) (fun _=>Nat.le_refl _) b hb j hj]
   have hfew:=Zfm W hT h6;have HE:Hid (∀w',Kb w w'→Kc 76 #[.pointer (some ⟨g,0,none⟩),.int .i64 (n:Int)] w' fun e w''=>∃a l c V,e=.returned (.slice a l c)∧PrAt w'' (.slice a l c) V T.ents∧Below w'.heap.size w' w''):=fun w' hb=>by
    refine (Zdc h T n w' hb (hT.s R) (by omega)).mono ?_;rintro e w'' ⟨v,its,e1,m1,p1,o1,b⟩;obtain ⟨a,c,rfl⟩:=Zo (Zap o1);have:=Zih o1 (fun p hp=>(p1 p hp).1) (fun p hp=>(p1 p hp).2.grow (Zb hb b));rw [m1] at this;exact ⟨a,_,c,_,e1,this,b⟩
   have hdp7:dp7 (sat ss (n:Int))=vDp true (cat cs (n:Int)):=by
    unfold dp7 vDp;rw [hS.kind,hS.d,if_pos rfl]
   have HDP:Hid (Kr w 87 #[.pointer (some ⟨g,0,none⟩),.int .i64 (n:Int)] (.int .i64 (vDp true (cat cs (n:Int))))):=fun w' hb=>by
    have:=Zpt (h.grow hb) (n:Int);rwa [hdp7] at this
   have HAT:Hid (∀w' v V,PrAt w' v V T.ents→Kc 133 #[v,.int .i64 (dd:Int)] w' fun e w''=>e=.returned (.agg (B (cat cs (n:Int)).dig))∧Below w'.heap.size w' w''):=fun w' v V hv=>by
    rw [hdig];exact Zwx (256-dd) dd T.ents v V w' (by omega) (by omega) ok.apart hsam (fun e he=>(ok.ent e he).2.1) hv
   have HSZ:Hid ((B (cat cs (n:Int)).dig).size=32):=by rw [Zj];exact (W.catOk _).ld
   generalize vDp true (cat cs (n:Int))=vd at HDP hdep;generalize (cat cs (n:Int)).dig=D at HAT HSZ ⊢;generalize (n:Int)=y at HH HE HDP hb0 ⊢;generalize (dd:Int)=dy at HAT hdep;have hvd:(0≤vd∧dy=vd)∨(vd<0∧dy=0):=by omega
   clear h R W hS HD hk hes hdd ok hd256 hdig hsam hfew hdp7 hdep n1 n2 hce hq0;rcases hvd with ⟨v1,rfl⟩ | ⟨v1,rfl⟩
   all_goals
    go_enter Tryz.func77,Tryz.ntmps77
    go_wp2_with (first
     |((with_reducible refine Zw 4 ?_);refine Zf _ rfl _ rfl _ Zat ?_;intro w1 b4 hg4 hl4 B4 b1;have HB4:=Za B4;have Hg4:=Za hg4;have Hb1:=Za b1;clear B4 hg4 hl4 b1)
     |(go_at_call 84;refine (HH.out _ Hb1.out).mono ?_;rintro e w' ⟨rfl,hx⟩;rw [hx];clear hx w')
     |(go_at_call 76;refine (HE.out _ Hb1.out).mono ?_;rintro e w2 ⟨ea,el,ec,eV,rfl,p2,b2⟩;have P2:=Za p2;have B4a:=Za (HB4.out.grow b2);have Hb2:=Za (Zb Hb1.out b2);clear b2 p2)
     |(go_at_call 87;refine (HDP.out _ Hb2.out).mono ?_;rintro e w3 ⟨rfl,b3⟩;have P3:=Za (P2.out.grow b3);have B4b:=Za (B4a.out.grow b3);have Hb3:=Za (Zb Hb2.out b3);clear b3)
     |(go_at_call 133;refine (HAT.out _ _ _ P3.out).mono ?_;rintro e w4 ⟨rfl,b4'⟩;have B4c:=Za (B4b.out.grow b4');have Hb4:=Za (Zb Hb3.out b4');clear b4')
     |((with_reducible refine Zah 4 ?_);refine Zg _ rfl _ _ _ rfl b4 _ (B D) rfl rfl B4c.out (by rw [HSZ.out];exact Zu) (by rw [HSZ.out,Zj];simp) (Zay _) ?_;intro w5 B5 g3))
    exact bodyPost_ret (v:=.agg (B D)) (results_cell_row rfl _ _ b4 _ _ _ _ rfl B5 Tryz.underlying121 rfl (by rw [HSZ.out];exact Zu)) rfl ⟨rfl,Ze Hb4.out g3 Hg4.out⟩
theorem Yiu (h:Rs w g vp vf room ss fr) (R:Rel7 cs [] [] ss) (W:Wf cs []) (h6:cs.length≤60) (q:Int):Kc 103 #[.pointer (some ⟨g,0,none⟩),.int .i64 q] w fun e w'=>e=.returned (.agg (B (vNd true (cat cs) q)))∧Kb w w':=by
 have hS:=Zbv R W q;have ho:=Zcf h q;have HA:Hid (Kr w 107 #[.pointer (some ⟨g,0,none⟩),.int .i64 q] (.agg (sz7 (sat ss q)).toArray)):=fun w' hb=>Zbc (h.grow hb) q
 have HL:Hid ((Tryz.prog.info? 154).map (·.size)=some (sz7 (sat ss q)).toArray.size):=by show _=_;rw [List.size_toArray,Zv _ ho.hk.1];exact Zbs
 have HZ:=Za Zct;have HZL:Hid ((sz7 zs7).toArray.size=(sz7 (sat ss q)).toArray.size):=by show _=_;rw [List.size_toArray,List.size_toArray,Zv _ ho.hk.1];rfl
 have H1:=Za (Zci ho);have hcs:=Zbz (sat ss q) ho.hk.1;have c0:=hcs.1;have cv:=hcs.2.2.1;have cl:=hcs.2.2.2.1;have cr:=hcs.2.2.2.2.1;rw [hS.kind] at c0;rw [hS.l] at cl;rw [hS.r] at cr;have hNL:(vNd true (cat cs) q).length=129:=by
  unfold vNd;split
  ·exact (Nd.length ⟨by omega,by omega,(W.catOk q).hk.1,Zp _,rfl,rfl,(W.catOk q).hk.2,Zam _,Zcb,Zcb⟩:(nd 1 (cat cs q).key (vaD (cat cs q).bs) z32 z32).length=129)
  ·split
   ·have hd:∀y,(vDg true (cat cs) y).length=32∧Bytes (vDg true (cat cs) y):=fun y=>by
     unfold vDg;split
     ·exact ⟨Zp _,Zam _⟩
     ·exact ⟨(W.catOk y).ld,(W.catOk y).bd⟩
    exact (Nd.length ⟨by omega,by omega,rfl,rfl,(hd _).1,(hd _).1,Zcb,Zcb,(hd _).2,(hd _).2⟩:(nd 2 z32 z32 (vDg true (cat cs) ((cat cs q).l:Int)) (vDg true (cat cs) ((cat cs q).r:Int))).length=129)
   ·rfl
 have HNL:=Za hNL;have hV:vNd true (cat cs) q=if (cat cs q).kind=1 then nd 1 (cat cs q).key (vaD (cat cs q).bs) z32 z32 else if (cat cs q).kind=2 then nd 2 z32 z32 (vDg true (cat cs) ((cat cs q).l:Int)) (vDg true (cat cs) ((cat cs q).r:Int)) else nd 0 z32 z32 z32 z32:=rfl
 generalize vNd true (cat cs) q=N at hV HNL ⊢
 by_cases k1:(cat cs q).kind=1
 ·rw [if_pos k1] at hV;have hkey:=hS.key k1;have hrd:Reads w (sat ss q).val (cat cs q).bs:=by
   rw [← hS.bs];have hne:(sat ss q).kind≠0:=by rw [hS.kind,k1];omega
   unfold sat at hne ⊢;split at hne
   ·next q1=>
    rw [if_pos q1];have hin:=Zfr hne;obtain ⟨sp,hown⟩:=h.vals (spAt ss (q-1).toNat) (by
     revert hin
     generalize (q-1).toNat=i;intro hin;rw [show spAt ss i=ss[i] by simp [spAt,hin]];exact List.getElem_mem hin)
    exact hown.reads
   ·exact absurd rfl hne
  have HVA:Hid (Kr w 140 #[(sat ss q).val] (.agg (B (vaD (cat cs q).bs)))):=fun w' hb=>Zhu _ _ w' (hrd.grow hb) (by have:=W.bsLen q;omega)
  have HBU:Hid (Tryz.prog.built 145 [(0,.int .u8 1),(1,.agg (B (cat cs q).key)),(2,.agg (B (vaD (cat cs q).bs)))]=some (B N)):=by
   show _=_;rw [hV];exact Zlc (cat cs q).key (vaD (cat cs q).bs) (W.catOk q).hk.1 (Zp _)
  have HPL:Hid ((Tryz.prog.info? 34).map (·.size)=some (B (cat cs q).key).toList.length):=by show _=_;rw [Zas,List.length_map,(W.catOk q).hk.1];exact Zi
  have HKS:Hid (∀w' b,Blk w' b 154 (sz7 (sat ss q)).toArray→w'.rangeAt b 2 (B (cat cs q).key).toList):=fun w' b hB j v hv=>by
   rw [hB.cell,List.getElem?_toArray];unfold sz7 encP;rw [hkey,show 2+j=(j+1)+1 by omega,List.getElem?_cons_succ,List.getElem?_cons_succ];rw [Zas] at hv;have hj:=(List.getElem?_eq_some_iff.1 hv).1;rw [List.append_assoc,List.getElem?_append_left hj];exact hv
  rw [k1] at c0;obtain ⟨va,vc,hvs⟩:=ho.vs;rw [hvs] at cv HVA;generalize (Value.slice va (sat ss q).bs.length vc)=u at cv HVA;generalize vaD (cat cs q).bs=VD at HVA HBU;generalize (cat cs q).key=K at HBU HPL HKS;generalize sz7 zs7=Z at HZ HZL;generalize sz7 (sat ss q)=X at HA HL HZL H1 c0 cv HKS;have HC0:=Za c0;have HCV:=Za cv;clear h R W hS ho hcs c0 cv cl cr hV k1 hkey hrd hNL hvs;go_enter Tryz.func103,Tryz.ntmps103
  go_wp2_with (first
   |((with_reducible refine Zw 4 ?_);refine Zf _ rfl _ rfl _ Zcz ?_;intro w1 b4 hg4 hl4 B4 b1;have HB4:=Za B4;have Hg4:=Za hg4;have Hb1:=Za b1;clear B4 hg4 hl4 b1)
   |(go_at_call 107;refine (HA.out _ Hb1.out).mono ?_;rintro e w2 ⟨rfl,b2⟩;have HB4a:=Za (HB4.out.grow b2);have Hb2:=Za (Zb Hb1.out b2);clear b2)
   |((with_reducible refine Zw 5 ?_);refine Zf _ rfl _ rfl _ HZ.out ?_;intro w3 b5 hg5 hl5 B5 b3;have HB4b:=Za (HB4a.out.grow b3);have HB5:=Za B5;have Hg5:=Za hg5;have Hb3:=Za b3;have hne:b4≠b5:=(by have:=HB4a.out.lt;omega);clear B5 hg5 hl5 b3)
   |((with_reducible refine Zah 5 ?_);refine Zg _ rfl _ _ _ rfl b5 _ X.toArray rfl rfl HB5.out HL.out HZL.out (all_oneCell_toArray H1.out) ?_;intro w4 B6 r6;have HB4c:=Za (HB4b.out.kept r6 hne);have HB6:=Za B6;have HQ4:=Za (Ze (Zb Hb2.out Hb3.out) r6 (by have:=Hg5.out;have:=Hb2.out.size;omega));have c7:=B6.cell 0;rw [List.getElem?_toArray,HC0.out] at c7;clear B6 r6))
  have HB4d:Hid (∀w',Kb w4 w'→Blk w' b4 145 (B (nd 0 z32 z32 z32 z32))):=fun w' hb=>HB4c.out.grow hb
  have HKR:Hid (∀w',Kb w4 w'→w'.rangeAt b5 2 (B K).toList):=fun w' hb=>HKS.out _ _ (HB6.out.grow hb)
  have HVR:Hid (∀w',Kb w4 w'→w'.cell? ⟨b5,34,none⟩=some u):=fun w' hb=>by rw [(HB6.out.grow hb).cell,List.getElem?_toArray];exact HCV.out
  clear c7;refine Zx (S:=fun w'=>Kb w4 w') 8 (by kernel_rfl) ((below_drewN (Below.refl _ _) 1)) (fun hHeld=>?_);refine tlp 0 (.pointer (some ⟨b5,2,none⟩)) hHeld ?_;simp only [zq];refine tlp 1 (.pointer (some ⟨b5,2,none⟩)) hHeld ?_;simp only [zq];refine tlg 2 (.agg (B K)) rfl (yieldsIf_load_mid rfl 34 (.tmp 13) rfl b5 2 rfl (B K).toList _ (fun w hS=>HKR.out _ hS) Tryz.underlying34 rfl HPL.out) hHeld ?_;simp only [zq];refine tlp 3 (.pointer (some ⟨b5,2,none⟩)) hHeld ?_;simp only [zq];refine tlp 4 (.pointer (some ⟨b5,34,none⟩)) hHeld ?_;simp only [zq];refine tlg 5 (u) rfl (Or.inl ⟨by rfl,fun w hS=>by (have q1:=HVR.out _ hS;go_simp)⟩) hHeld ?_;simp only [zq];refine Zad (i:=6) rfl (by kernel_rfl) (fun KQ hK=>?_);go_simp;refine (HVA.out _ (Zb HQ4.out hHeld)).mono ?_;rintro e z1 ⟨rfl,a1⟩;refine hK.out _ _ (Zb hHeld a1) (fun hHeld=>?_);clear hK KQ;refine tlg 7 (.agg (B N)) rfl (Or.inl ⟨by rfl,fun w hS=>Zbw _ _ 145 _ (by rfl) _ (by rw [List.map_toArray];exact HBU.out) w⟩) hHeld ?_;simp only [zq];refine Zaf rfl (by kernel_rfl) (by kernel_rfl) (fun KQ hK=>?_);refine Zbr _ rfl _ _ _ rfl b4 _ (B N) rfl rfl (HB4d.out _ hHeld) (Zaz HNL.out) (by rw [Zj,Zj,HNL.out];rfl) (Zay _) ?_;intro z4 B9 r9;refine hK.out _ _ ?_;clear hK KQ;go_wp2
  exact bodyPost_ret (v:=.agg (B N)) (results_cell_row rfl _ _ b4 _ _ _ _ rfl B9 Tryz.underlying145 rfl (Zaz HNL.out)) rfl ⟨rfl,Ze (Zb HQ4.out hHeld) r9 Hg4.out⟩
 ·rw [if_neg k1] at hV
  by_cases k2:(cat cs q).kind=2
  ·rw [if_pos k2] at hV;have HDl:Hid (Kr w 77 #[.pointer (some ⟨g,0,none⟩),.int .i64 ((cat cs q).l:Int)] (.agg (B (vDg true (cat cs) ((cat cs q).l:Int))))):=fun w' hb=>Yfx (h.grow hb) R W h6 _
   have HDr:Hid (Kr w 77 #[.pointer (some ⟨g,0,none⟩),.int .i64 ((cat cs q).r:Int)] (.agg (B (vDg true (cat cs) ((cat cs q).r:Int))))):=fun w' hb=>Yfx (h.grow hb) R W h6 _
   have hd:∀y,(vDg true (cat cs) y).length=32:=fun y=>by
    unfold vDg;split
    ·exact Zp _
    ·exact (W.catOk y).ld
   have HBU:Hid (Tryz.prog.built 145 [(0,.int .u8 2),(3,.agg (B (vDg true (cat cs) ((cat cs q).l:Int)))),(4,.agg (B (vDg true (cat cs) ((cat cs q).r:Int))))]=some (B N)):=by
    show _=_;rw [hV];exact Zjv _ _ (hd _) (hd _)
   rw [k2] at c0;generalize vDg true (cat cs) ((cat cs q).l:Int)=DL at HBU HDl;generalize vDg true (cat cs) ((cat cs q).r:Int)=DR at HBU HDr;generalize ((cat cs q).l:Int)=ly at HDl cl;generalize ((cat cs q).r:Int)=ry at HDr cr;generalize sz7 zs7=Z at HZ HZL;generalize sz7 (sat ss q)=X at HA HL HZL H1 c0 cl cr;have HC0:=Za c0;have HXl:=Za cl;have HXr:=Za cr;clear h R W hS ho hcs c0 cv cl cr hV k1 k2 hNL hd;go_enter Tryz.func103,Tryz.ntmps103
   go_wp2_with (first
   |((with_reducible refine Zw 4 ?_);refine Zf _ rfl _ rfl _ Zcz ?_;intro w1 b4 hg4 hl4 B4 b1;have HB4:=Za B4;have Hg4:=Za hg4;have Hb1:=Za b1;clear B4 hg4 hl4 b1)
   |(go_at_call 107;refine (HA.out _ Hb1.out).mono ?_;rintro e w2 ⟨rfl,b2⟩;have HB4a:=Za (HB4.out.grow b2);have Hb2:=Za (Zb Hb1.out b2);clear b2)
   |((with_reducible refine Zw 5 ?_);refine Zf _ rfl _ rfl _ HZ.out ?_;intro w3 b5 hg5 hl5 B5 b3;have HB4b:=Za (HB4a.out.grow b3);have HB5:=Za B5;have Hg5:=Za hg5;have Hb3:=Za b3;have hne:b4≠b5:=(by have:=HB4a.out.lt;omega);clear B5 hg5 hl5 b3)
   |((with_reducible refine Zah 5 ?_);refine Zg _ rfl _ _ _ rfl b5 _ X.toArray rfl rfl HB5.out HL.out HZL.out (all_oneCell_toArray H1.out) ?_;intro w4 B6 r6;have HB4c:=Za (HB4b.out.kept r6 hne);have HB6:=Za B6;have HQ4:=Za (Ze (Zb Hb2.out Hb3.out) r6 (by have:=Hg5.out;have:=Hb2.out.size;omega));have c7:=B6.cell 0;rw [List.getElem?_toArray,HC0.out] at c7;clear B6 r6))
   have HB4d:Hid (∀w',Kb w4 w'→Blk w' b4 145 (B (nd 0 z32 z32 z32 z32))):=fun w' hb=>HB4c.out.grow hb
   have HLR:Hid (∀w',Kb w4 w'→w'.cell? ⟨b5,35,none⟩=some (.int .i64 ly)):=fun w' hb=>by rw [(HB6.out.grow hb).cell,List.getElem?_toArray];exact HXl.out
   have HRR:Hid (∀w',Kb w4 w'→w'.cell? ⟨b5,36,none⟩=some (.int .i64 ry)):=fun w' hb=>by rw [(HB6.out.grow hb).cell,List.getElem?_toArray];exact HXr.out
   clear c7;refine Zx (S:=fun w'=>Kb w4 w') 9 (by kernel_rfl) ((below_drewN (Below.refl _ _) 1)) (fun hHeld=>?_);refine tlp 0 (.pointer (some ⟨g,0,none⟩)) hHeld ?_;simp only [zq];refine tlp 1 (.pointer (some ⟨b5,35,none⟩)) hHeld ?_;simp only [zq];refine tlg 2 (.int .i64 ly) rfl (Or.inl ⟨by rfl,fun w hS=>by (have q1:=HLR.out _ hS;go_simp)⟩) hHeld ?_;simp only [zq];refine tlp 4 (.pointer (some ⟨g,0,none⟩)) hHeld ?_;simp only [zq];refine tlp 5 (.pointer (some ⟨b5,36,none⟩)) hHeld ?_;simp only [zq];refine tlg 6 (.int .i64 ry) rfl (Or.inl ⟨by rfl,fun w hS=>by (have q1:=HRR.out _ hS;go_simp)⟩) hHeld ?_;simp only [zq];refine Zad (i:=3) rfl (by kernel_rfl) (fun KQ hK=>?_);go_simp;refine (HDl.out _ (Zb HQ4.out hHeld)).mono ?_;rintro e z1 ⟨rfl,a1⟩;refine hK.out _ _ (Zb hHeld a1) (fun hHeld=>?_);clear hK KQ;refine Zad (i:=7) rfl (by kernel_rfl) (fun KQ hK=>?_);go_simp;refine (HDr.out _ (Zb HQ4.out hHeld)).mono ?_;rintro e z2 ⟨rfl,a2⟩;refine hK.out _ _ (Zb hHeld a2) (fun hHeld=>?_);clear hK KQ;refine tlg 8 (.agg (B N)) rfl (Or.inl ⟨by rfl,fun w hS=>Zbw _ _ 145 _ (by rfl) _ (by rw [List.map_toArray];exact HBU.out) w⟩) hHeld ?_;simp only [zq];refine Zaf rfl (by kernel_rfl) (by kernel_rfl) (fun KQ hK=>?_);refine Zbr _ rfl _ _ _ rfl b4 _ (B N) rfl rfl (HB4d.out _ hHeld) (Zaz HNL.out) (by rw [Zj,Zj,HNL.out];rfl) (Zay _) ?_;intro z4 B9 r9;refine hK.out _ _ ?_;clear hK KQ;go_wp2
   exact bodyPost_ret (v:=.agg (B N)) (results_cell_row rfl _ _ b4 _ _ _ _ rfl B9 Tryz.underlying145 rfl (Zaz HNL.out)) rfl ⟨rfl,Ze (Zb HQ4.out hHeld) r9 Hg4.out⟩
  ·rw [if_neg k2] at hV;obtain ⟨kk,hkk⟩:∃kk,kk=(cat cs q).kind:=⟨_,rfl⟩;rw [← hkk] at c0 k1 k2;have n1:(kk == 1)=false:=by simp [k1]
   have n2:(kk == 2)=false:=by simp [k2]
   have HBU:Hid (Tryz.prog.built 145 []=some (B N)):=by
    show _=_;rw [hV];exact Zqq
   have HVN:=Za hV;generalize sz7 zs7=Z at HZ HZL;generalize sz7 (sat ss q)=X at HA HL HZL H1 c0;have HC0:=Za c0;clear h R W hS ho hcs c0 cv cl cr hV k1 k2 hNL hkk;go_enter Tryz.func103,Tryz.ntmps103
   go_wp2_with (first
   |((with_reducible refine Zw 4 ?_);refine Zf _ rfl _ rfl _ Zcz ?_;intro w1 b4 hg4 hl4 B4 b1;have HB4:=Za B4;have Hg4:=Za hg4;have Hb1:=Za b1;clear B4 hg4 hl4 b1)
   |(go_at_call 107;refine (HA.out _ Hb1.out).mono ?_;rintro e w2 ⟨rfl,b2⟩;have HB4a:=Za (HB4.out.grow b2);have Hb2:=Za (Zb Hb1.out b2);clear b2)
   |((with_reducible refine Zw 5 ?_);refine Zf _ rfl _ rfl _ HZ.out ?_;intro w3 b5 hg5 hl5 B5 b3;have HB4b:=Za (HB4a.out.grow b3);have HB5:=Za B5;have Hg5:=Za hg5;have Hb3:=Za b3;have hne:b4≠b5:=(by have:=HB4a.out.lt;omega);clear B5 hg5 hl5 b3)
   |((with_reducible refine Zah 5 ?_);refine Zg _ rfl _ _ _ rfl b5 _ X.toArray rfl rfl HB5.out HL.out HZL.out (all_oneCell_toArray H1.out) ?_;intro w4 B6 r6;have HB4c:=Za (HB4b.out.kept r6 hne);have HB6:=Za B6;have HQ4:=Za (Ze (Zb Hb2.out Hb3.out) r6 (by have:=Hg5.out;have:=Hb2.out.size;omega));have c7:=B6.cell 0;rw [List.getElem?_toArray,HC0.out] at c7;clear B6 r6)
   |((with_reducible refine Zzz ?_);refine Zar _ rfl _ _ rfl _ (by rw [List.map_toArray];exact HBU.out) ?_)
   |((with_reducible refine Zah 4 ?_);refine Zg _ rfl _ _ _ rfl b4 _ (B N) rfl rfl HB4c.out (Zaz HNL.out) (by rw [Zj,Zj,HNL.out];rfl) (Zay _) ?_;intro z4 B9 r9))
   exact bodyPost_ret (v:=.agg (B N)) (results_cell_row rfl _ _ b4 _ _ _ _ rfl B9 Tryz.underlying145 rfl (Zaz HNL.out)) rfl ⟨rfl,Ze HQ4.out r9 Hg4.out⟩
theorem Zke:Tryz.prog.underlying 33=some (.array 32 5):=Tryz.underlying33
theorem Zik {xs:Lq} (h:Key xs):(Tryz.prog.info? 33).map (·.size)=some (B xs).size:=by rw [Zj,h.1];exact Zaa
theorem Yfj (xs:Lq) (d:Nat) (b z:Int) (hx:Key xs) (hd:d<256) (hb:b=0∨b=1) (hz:z=xs.getD (d / 8) 0+(b-kb xs d) * 2 ^ (7-d % 8)):0≤z∧z≤255∧IsSet xs d b (xs.set (d / 8) z):=by
 obtain ⟨⟨h1,h2⟩,h3⟩:=Ykh (xs.getD (d / 8) 0) b (hx.byte _) hb (d % 8) (by omega);have e:xs.getD (d / 8) 0+(b-bt (xs.getD (d / 8) 0) (d % 8)) * 2 ^ (7-d % 8)=z:=hz.symm;rw [e] at h1 h2 h3;refine ⟨h1,h2,hx.set _ _ ⟨h1,h2⟩,fun j hj=>?_⟩;rw [Yjh _ _ _ _ (by rw [hx.1];omega)]
 by_cases q:j / 8=d / 8
 ·rw [if_pos q,h3 _ (by omega)]
  by_cases p:j % 8=d % 8
  ·rw [if_pos p,if_pos (by omega)]
  ·rw [if_neg p,if_neg (by omega)];unfold kb;rw [q]
 ·rw [if_neg q,if_neg (by omega)]
set_option maxRecDepth 10000 in
theorem Yfo (xs:Lq) (d:Nat) (b:Int) (w:World) (hx:Key xs) (hd:d<256) (hb:b=0∨b=1):Kc 183 #[.agg (B xs),.int .i64 d,.int .i64 b] w fun e w'=>∃ys,IsSet xs d b ys∧e=.returned (.agg (B ys))∧Kb w w':=by
 have HX:=Za hx;have h2:((d / 8:Nat):Int)<32:=by omega
 have hby:=hx.byte (d / 8);obtain ⟨x,hxx⟩:∃x,x=xs.getD (d / 8) 0:=⟨_,rfl⟩;rw [← hxx] at hby;have hwx:wrap64 x=x:=Go.IntWalk.wrap64_in _ (by omega);obtain ⟨y,hy⟩:∃y,y=kb xs d:=⟨_,rfl⟩;have hy2:y=0∨y=1:=by rw [hy];exact Zdq xs d
 have cB:Hid (∀w',Kc 106 #[.agg (B xs),.int .i64 d] w' fun e w''=>e=.returned (.int .i64 y)∧Below w'.heap.size w' w''):=by
  intro w';rw [hy];exact Zft xs d w' hx hd
 obtain ⟨W,hW⟩:∃W:Int,W=2 ^ (7-d % 8):=⟨_,rfl⟩;obtain ⟨f,hf⟩:∃f:Int,f=b-y:=⟨_,rfl⟩;obtain ⟨m,hm⟩:∃m:Int,m=f * W:=⟨_,rfl⟩;obtain ⟨z,hz⟩:∃z:Int,z=x+m:=⟨_,rfl⟩;obtain ⟨z0,z1,hset⟩:=Yfj xs d b z hx hd hb (by rw [hz,hm,hf,hxx,hy,hW]);have HSET:=Za hset;have HW:=Za hW;have w9:IntKind.i64.wrap (b-y)=f:=by rw [IntKind.wrap_i64];omega
 have w11:IntKind.i64.wrap (f * W)=m:=by rw [← hm,IntKind.wrap_i64];omega
 have w12:IntKind.i64.wrap (x+m)=z:=by rw [← hz,IntKind.wrap_i64];omega
 have w13:z % 256=z:=by omega
 have w1:IntKind.i64.wrap ((d:Int) / 8)=(d:Int) / 8:=by rw [IntKind.wrap_i64];omega
 have w4:IntKind.i64.wrap x=x:=by rw [IntKind.wrap_i64];omega
 have hbd:0≤(d:Int) / 8∧(d:Int) / 8<32:=by omega
 have htn:((d:Int) / 8).toNat=d / 8:=by omega
 have HXX:=Za hxx;have hs:=Zik hx;have hs2:=Zik hset.1;have HZ:Hid ((B (xs.set (d / 8) z)).size=32):=by rw [Zj];exact hset.1.1
 have hiX:(Tryz.prog.info? 33).map (·.size)=some (B xs).toList.length:=by rw [Zas,List.length_map,hx.1];exact Zaa
 clear hx hxx hW hf hm hz hset hy2 hb hy;go_enter Tryz.func183,Tryz.ntmps183
 go_wp2_with (first | (refine Zc _ rfl _ _ rfl _ rfl ?_;intro w1 g1 hg1 hl1 B1 b1) | (refine Zf _ rfl _ rfl _ Zbq ?_;intro w2 g2 hg2 hl2 B2 b2;have B1':=B1.grow b2))
 have c2:=Zb b1 b2;have hg3:w.heap.size≤g2:=Nat.le_trans b1.size hg2;have hne:g2≠g1:=by omega
 have HB:Hid (∀w',Kb w2 w'→Blk w' g1 33 (B xs)∧Blk w' g2 33 (B (List.replicate 32 0))):=fun w' hw'=>⟨B1'.grow hw',B2.grow hw'⟩
 have HS:Hid (∀w',Kb w2 w'→w'.rangeAt g1 0 (B xs).toList∧w'.cell? ⟨g1,d / 8,none⟩=some (.int .u8 x)):=fun w' hw'=>⟨(B1'.grow hw').range,by
  have:=(B1'.grow hw').bcell (d / 8) (by rw [HX.out.1];omega);rw [← HXX.out] at this;exact this⟩
 clear B1 B1' B2 b1 b2 hl1 hl2 hg2;have hm:d % 8<8:=Nat.mod_lt _ (by omega)
 go_loopw [7,8] (fun s i wr=>∃(k:Nat) (v:Int),k≤7-d % 8∧s=.int .i64 v∧i=.int .i64 k∧Hid (v=2 ^ k)∧0≤v∧v≤128∧wr=w2) (fun _ i _=>8-(intOf i).toNat)
 case atStart=>exact ⟨0,1,by omega,rfl,rfl,by show _=_;simp,by omega,by omega,rfl⟩
 case round=>
  obtain ⟨k,v,hk,rfl,rfl,hv,hv0,hv1,hwr⟩:=hrel
  by_cases hlt:k<7-d % 8
  ·subst hwr;have hlt':(k:Int)<7-(d:Int) % 8:=by omega
   have hv2:v≤64:=by
    have h:=(show ∀k,k<7→2 ^ k≤64 from by decide+kernel) k (by omega);rw [hv.out];have e:(2:Int) ^ k=((2 ^ k:Nat):Int):=by rw [Int.natCast_pow];rfl
    rw [e];exact Int.ofNat_le.2 h
   go_wp2
   exact ⟨⟨k+1,2 * v,by omega,by go_num,by go_num,by show _=_;rw [hv.out,Int.pow_succ,Int.mul_comm],by omega,by omega,trivial⟩,by simp [intOf];omega⟩
  ·have hlt':decide ((k:Int)<7-(d:Int) % 8)=false:=decide_eq_false (by omega);obtain rfl:k=7-d % 8:=by omega
   obtain rfl:v=W:=by rw [hv.out,HW.out]
   subst hwr;obtain ⟨wz,rfl⟩:∃x,x=wr:=⟨_,rfl⟩;have d0:Kb wz wz.drew:=(Below.refl _ _).drew;clear hlt hlt'
   go_wp2_with fail
   refine wp_region_held_drew (S:=fun w'=>w'.rangeAt g1 0 (B xs).toList∧w'.cell? ⟨g1,d / 8,none⟩=some (.int .u8 x)) (by kernel_rfl) (HS.out _ d0) (fun hHeld=>?_);refine tkp 0 (.int .i64 (d:Int)) hHeld ?_;simp only [zq];refine tkp 1 (.int .i64 ((d:Int) / 8)) hHeld ?_;simp only [zq];refine tkp 2 (.pointer (some ⟨g1,d / 8,none⟩)) hHeld ?_;simp only [zq];refine tkg 3 (.int .u8 x) rfl (Or.inl ⟨by rfl,fun w hS=>by (have q1:=hS.2;go_simp)⟩) hHeld ?_;simp only [zq];refine tkp 4 (.int .i64 x) hHeld ?_;simp only [zq];refine tkp 5 (.int .i64 b) hHeld ?_;simp only [zq];refine tkg 6 (.agg (B xs)) rfl (yieldsIf_load_mid rfl 33 (.tmp 3) rfl g1 0 rfl (B xs).toList _ (fun w hS=>hS.1) Zke rfl hiX) hHeld ?_;simp only [zq];refine tkp 7 (.int .i64 (d:Int)) hHeld ?_;simp only [zq];refine tkp 10 (.int .i64 v) hHeld ?_;simp only [zq];refine wpAnyH_ready (rs:=[8]) (by kernel_rfl) (by simp) ?_;refine AllReadyH.cons rfl (fun KQ hK=>?_) AllReadyH.nil;go_simp;refine (cB.out _).mono ?_;rintro e x1 ⟨rfl,a1⟩;have d1:=Zb d0 a1;refine hK.out _ _ (HS.out _ d1) (fun hHeld=>?_);clear hK KQ;refine tkp 9 (.int .i64 f) hHeld ?_;simp only [zq];refine tkp 11 (.int .i64 m) hHeld ?_;simp only [zq];refine tkp 12 (.int .i64 z) hHeld ?_;simp only [zq];refine wpAnyH_ready (rs:=[13]) (by kernel_rfl) (by simp) ?_;refine AllReadyH.cons rfl (fun KQ hK=>?_) AllReadyH.nil;go_simp;refine hK.out _ _ (HS.out _ d1) (fun hHeld=>?_);clear hK KQ;refine wpAnyH_done (by kernel_rfl) ?_ _;have B4:=(HB.out _ d1).1;have B5:=(HB.out _ d1).2;have c1:=(HS.out _ d1).2;have f1:=B4.frozen (d / 8);have c4:Kb w x1:=Zb c2 d1;clear HS HB d0 d1 a1 w9 w11 w12 w1 w4 hbd htn
   go_wp2_with (first | (refine Zd _ rfl _ _ rfl g1 _ rfl (B4.bset (d / 8) z) _ _ Zke hs2 ?_) | (refine Zg _ rfl _ _ _ rfl g2 _ (B (xs.set (d / 8) z)) rfl rfl (B5.other (d / 8) (.int .u8 z) hne) hs2 (by rw [HZ.out,Zj];simp) (Zay _) ?_;intro w5 B6 g5))
   exact bodyPost_ret (v:=.agg (B (xs.set (d / 8) z))) (results_cell_row rfl _ _ g2 _ _ _ _ rfl B6 Zke rfl hs2) rfl ⟨_,HSET.out,rfl,Ze (Zr _ _ c4 hg1) g5 hg3⟩
def Cop (xs:Lq) (k:Nat) (ys:Lq):Prop:=ys.length=32∧∀j,j<32→ys.getD j 0=if j<k then xs.getD j 0 else 0
end Go.Proofs.YtgfdgjkbcdmboaaGreatDoor
