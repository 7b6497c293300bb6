/- New, Large and Play of the laws' scenes, as contracts. -/
import Derived.Test.YtgfdgjkbcdmboaaGreatDoorDs44
import Derived.LaidMore
import Derived.Stop.Joined
import Derived.Lib.LaidTab
namespace Go.Proofs.YtgfdgjkbcdmboaaGreatDoor
variable {W w w0 w2 w3:World}
variable {al:Lq}
variable {cs:Lz}
variable {fr:List Nat}
variable {g gc gs nb q room:Nat}
variable {root:Int}
variable {va:Value}
set_option maxHeartbeats 4000000
set_option maxRecDepth 20000
open Go.RowKit
theorem Zzq (x y:Option Addr):Tryz.prog.built 32 [(0,.pointer x),(1,.pointer y)]=some #[.pointer x,.pointer y,.int .i64 0,.slice none 0 0]:=by kernel_rfl
theorem Yij (p:P7 w [] w2 g gs q room [] []) (hg:w2.heap.size≤gc) (hb:Kb w2 w3) (b:Blk w3 gc 32 #[.pointer (some ⟨g,0,none⟩),.pointer (some ⟨q,0,none⟩),.int .i64 0,.slice none 0 0]):Sn w w3 gc g gs q room [] [] 0 (.slice none 0 0) [] 0:=by
 have hlow:=p.mod.below0;obtain ⟨S,p2,n,l⟩:=p.from2;refine ⟨⟨S,p2.rebase hb,fun k hk=>?_,fun k hk=>Nat.lt_of_lt_of_le (l k hk) hb.size,fun e=>by have:=l _ e;omega,fun k hk=>by cases hk⟩,Zb hlow hb,b,World.ownsRow_nil _ _ _ _,Nat.le_trans hlow.size hg,by simp,fun i=>?_⟩
 ·rcases n k hk with e | e
  ·cases e
  ·exact e
 ·show 0-_≤0;omega
def NwPost (w:World) (room:Nat) (e:Ending) (w':World):Prop:=∃gc g gs q,e=.returned (.tuple #[.pointer (some ⟨gc,0,none⟩),.bool true])∧Sn w w' gc g gs q room [] [] 0 (.slice none 0 0) [] 0
theorem Yil (room:Nat) (w:World) (h1:1≤room) (h2:room≤5000):Kc 34 #[.int .i64 (room:Int)] w (NwPost w room):=by
 have HNW:=Za (Yjm room w h1 (by omega));have HNR:Hid (∀w',Kc 69 #[.int .i64 (room:Int)] w' fun e w''=>∃g,e=.returned (.tuple #[.pointer (some ⟨g,0,none⟩),.int .i64 0])∧w'.heap.size≤g∧Rs w'' g (.slice none 0 0) (.slice none 0 0) room [] []∧Below w'.heap.size w' w''):=fun w'=>Ybl room w' h1 (by omega)
 have HPost:Hid (∀gc g gs q w',Sn w w' gc g gs q room [] [] 0 (.slice none 0 0) [] 0→NwPost w room (.returned (.tuple #[.pointer (some ⟨gc,0,none⟩),.bool true])) w'):=fun gc g gs q w' s=>⟨gc,g,gs,q,rfl,s⟩
 generalize NwPost w room=P at HPost ⊢;clear h1 h2;go_enter Tryz.func34,Tryz.ntmps34
 go_wp2_with (first
  |(go_at_call 68;refine HNW.out.mono ?_;rintro e w1 ⟨g,gs,rfl,h1⟩;have HH1:=Za h1;clear h1)
  |(go_at_call 69;refine (HNR.out _).mono ?_;rintro e w2 ⟨q,rfl,h2,d2,b2⟩;have HP2:=Za (Yja HH1.out h2 d2 b2);clear h2 d2 b2)
  |((with_reducible refine Zle 20 ?_);refine Zar _ rfl _ _ rfl _ (by rw [List.map_toArray];exact Zzq _ _) ?_)
  |((with_reducible refine Zl 21 ?_);refine Zc _ rfl _ _ rfl _ rfl ?_;intro w3 gc hg3 hl3 B3 q3;have HN3:=Za (Yij HP2.out hg3 q3 B3);clear hg3 hl3 B3 q3))
 exact HPost.out _ _ _ _ _ HN3.out
def LgOk (room:Int) (qs:List Ap):Prop:=1≤room∧room≤5000∧qs.length≤16∧∀i,i<qs.length→(qs.getD i default).bs.length≤2000
def LgPost (b:Bool) (w:World) (e:Ending) (w':World):Prop:=e=.returned (.bool b)∧Kb w w'
theorem Yem (room:Int) (v:Value) (qs:List Ap) (w:World) (hv:ApAt w v qs) (lb:Bool) (hlb:lb=false↔LgOk room qs):Kc 9 #[.int .i64 room,v] w (LgPost lb w):=by
 obtain ⟨a,c,rfl,hcell,hall⟩:=hv;have HP1:Hid (¬LgOk room qs→∀w',Kb w w'→LgPost lb w (.returned (.bool true)) w'):=fun hn w' hb=>⟨by
  cases lb with
  | true=>rfl
  | false=>exact absurd (hlb.1 rfl) hn,hb⟩
 obtain ⟨N,hN⟩:∃N,N=qs.length:=⟨_,rfl⟩;have HP0:Hid (1≤room→room≤5000→N≤16→(∀i,i<N→(qs.getD i default).bs.length≤2000)→∀w',Kb w w'→LgPost lb w (.returned (.bool false)) w'):=fun h1 h2 h3 h4 w' hb=>⟨by rw [hlb.2 ⟨h1,h2,by rw [← hN];exact h3,fun i hi=>h4 i (by rw [hN];exact hi)⟩],hb⟩
 have HNL:Hid (N=qs.length):=hN;rw [← hN];have HCE:Hid (∀i,i<N→∃b off va vc,a=some ⟨b,off,none⟩∧∀w',Kb w w'→w'.cell? ⟨b,off+i * 35+33,none⟩=some (.slice va (qs.getD i default).bs.length vc)):=fun i hi=>by
  obtain ⟨b,off,e1,hrg⟩:=hcell (by rw [← hN];omega);obtain ⟨q1,q2,_⟩:=hall i (by rw [← hN];exact hi);obtain ⟨va,vc,e2,_⟩:=q2;refine ⟨b,off,va,vc,e1,fun w' hb=>Zz hb ?_⟩;refine hrg i (by rw [← hN];exact hi) 33 _ ?_;rw [← e2];exact (Zqt q1.1).1
 generalize LgPost lb w=P at HP1 HP0 ⊢;clear hcell hall hN hlb
 by_cases r1:room<1
 ·have HP2:=Za (HP1.out (fun q=>by have:=q.1;omega));go_enter Tryz.func9,Tryz.ntmps9
  go_wp2
  exact HP2.out _ (Below.refl _ _)
 ·by_cases r2:5000<room
  ·have HP2:=Za (HP1.out (fun q=>by have:=q.2.1;omega));go_enter Tryz.func9,Tryz.ntmps9
   go_wp2
   exact HP2.out _ (Below.refl _ _)
  ·by_cases r3:16<N
   ·have r31:(16:Int)<(N:Int):=by omega
    have HP2:=Za (HP1.out (fun q=>by have:=q.2.2.1;rw [← HNL.out] at this;omega));go_enter Tryz.func9,Tryz.ntmps9
    go_wp2
    exact HP2.out _ (Below.refl _ _)
   ·have r31: ¬(16:Int)<(N:Int):=by omega
    have hN16:N≤16:=by omega
    have HRR:Hid (1≤room∧room≤5000):=by show _∧_;omega
    go_enter Tryz.func9,Tryz.ntmps9
    go_wp2_with fail
    go_loopw [5] (fun iv wr=>∃(k:Nat),k≤N∧iv=.int .i64 (k:Int)∧Hid (∀i,i<k→(qs.getD i default).bs.length≤2000)∧Hid (Kb w wr)) (fun iv _=>N-(intOf iv).toNat)
    case atStart=>exact ⟨0,by omega,rfl,fun i hi=>absurd hi (by omega),Below.refl _ _⟩
    case round=>
     obtain ⟨k,hk,rfl,hA,hB⟩:=hrel
     by_cases hlt:k<N
     ·obtain ⟨b,off,va,vc,rfl,hcv0⟩:=HCE.out k hlt;have hcv:=hcv0 _ hB.out;have HVN:Hid ((qs.getD k default).bs.length=(qs.getD k default).bs.length):=rfl;obtain ⟨vn,hvn⟩:∃vn,vn=(qs.getD k default).bs.length:=⟨_,rfl⟩;rw [← hvn] at hcv;have HVE:=Za hvn;have k0:(0:Int)≤(k:Int):=by omega
      have k1:(k:Int)<(N:Int):=by omega
      have hwk:wrap64 ((k:Int)+1)=((k+1:Nat):Int):=by rw [Go.IntWalk.wrap64_in _ (by omega)];rfl
      clear hcv0 hvn HVN
      by_cases hv2:2000<vn
      ·have j1:(2000:Int)<(vn:Int):=by omega
       have HP2:=Za (HP1.out (fun q=>by have:=q.2.2.2 k (by rw [← HNL.out];exact hlt);rw [← HVE.out] at this;omega));go_wp2
       exact HP2.out _ hB.out
      ·have j1: ¬(2000:Int)<(vn:Int):=by omega
       go_wp2_with fail
       refine ⟨⟨k+1,by omega,by go_num,fun i hi=>?_,hB⟩,by simp [intOf];omega⟩
       by_cases e:i<k
       ·exact hA.out i e
       ·obtain rfl:i=k:=by omega
        rw [← HVE.out];omega
     ·obtain rfl:k=N:=by omega
      have nlt: ¬(k:Int)<(k:Int):=by omega
      have HPE:=Za (HP0.out HRR.out.1 HRR.out.2 hN16 hA.out _ hB.out)
      go_wp2_with fail
      exact HPE.out
def PlPost9x (w:World) (room:Nat) (n:Nat) (e:Ending) (w':World):Prop:=∃gc g gs q cs fr root va al,e=.returned (.tuple #[.pointer (some ⟨gc,0,none⟩),.bool true])∧Sn w w' gc g gs q room cs fr root va al n∧Ex n cs root al
def PlPost9 (w:World) (room:Nat) (n:Nat) (e:Ending) (w':World):Prop:=∃gc g gs q cs fr root va al,e=.returned (.tuple #[.pointer (some ⟨gc,0,none⟩),.bool true])∧Sn w w' gc g gs q room cs fr root va al n
theorem Zvr (h:Sn w0 w gc g gs q room cs fr root va al nb) (h5:room≤5000) (hL:∀w',Kb w0 w'→Laid w'):Kr w 11 #[.pointer (some ⟨g,0,none⟩),.pointer (some ⟨q,0,none⟩),.bool false] (.bool true):=fun w' hb=>by
 obtain ⟨S,o⟩:=(h.grow hb).so;exact Yfl o.p h5 (hL _ (h.grow hb).low) false (fun e=>by cases e)
theorem Yej (room:Nat) (v:Value) (qs:List Ap) (w:World) (hv:ApAt w v qs) (hL:∀w',Kb w w'→Laid w') (hg:LgOk (room:Int) qs):Kc 10 #[.int .i64 (room:Int),v] w (PlPost9 w room qs.length):=by
 obtain ⟨a,c,rfl,hcell,hall⟩:=hv;obtain ⟨g1,g2,g3,g4⟩:=hg;have HNW:=Za (Yil room w (by omega) (by omega));obtain ⟨N,hN⟩:∃N,N=qs.length:=⟨_,rfl⟩;rw [← hN] at g3 g4 hcell hall;have HPost:Hid (∀gc g gs q cs fr root va al w',Sn w w' gc g gs q room cs fr root va al N→PlPost9 w room qs.length (.returned (.tuple #[.pointer (some ⟨gc,0,none⟩),.bool true])) w'):=fun gc g gs q cs fr root va al w' s=>⟨gc,g,gs,q,cs,fr,root,va,al,rfl,by rw [← hN];exact s⟩
 rw [← hN];rw [← hN] at HPost;have HCE:=Za hcell;have HAL:=Za hall;have HG4:=Za g4;have HLa:=Za hL;have HRM:Hid (room≤5000):=by show _≤_;omega
 generalize PlPost9 w room N=P at HPost ⊢;clear hcell hall hN hL g1 g2 g4;go_enter Tryz.func10,Tryz.ntmps10
 go_wp2_with (first
  |(go_at_call 34;refine HNW.out.mono ?_;rintro e w1 ⟨gc,g,gs,q,rfl,s1⟩;have HS1:=Za s1;clear s1))
 clear HNW
 go_loopw [7,8] (fun bv iv wr=>∃(k:Nat) (cs:Lz) (fr:List Nat) (root:Int) (va:Value) (al:Lq),k≤N∧bv=.bool true∧iv=.int .i64 (k:Int)∧Hid (Sn w wr gc g gs q room cs fr root va al k)) (fun _ iv _=>N-(intOf iv).toNat)
 case atStart=>exact ⟨0,[],[],0,_,[],by omega,rfl,rfl,HS1⟩
 case round=>
  clear HS1;obtain ⟨k,cs,fr,root,va,al,hk,rfl,rfl,hS⟩:=hrel
  by_cases hlt:k<N
  ·obtain ⟨b,off,rfl,hrg⟩:=HCE.out (by omega);have hlow:=hS.out.low;have HRG:Hid (wr.rangeAt b (off+k * 35) (apC (qs.getD k default))):=fun j u hu=>Zz hlow (hrg k hlt j u hu)
   obtain ⟨q1,q2,q3⟩:=HAL.out k hlt;have HDO:=Za (Yfk hS.out HRM.out (by omega) HLa.out (qs.getD k default) q1 (fun w' hb=>q2.grow hb) (HG4.out k hlt));have HSZ:Hid ((Tryz.prog.info? 74).map (·.size)=some (apC (qs.getD k default)).length):=by
    show _=_;rw [apC,Zbk _ _ _ _ q1.1];exact Zcc
   generalize apC (qs.getD k default)=A at HRG HDO HSZ;have k0:(0:Int)≤(k:Int):=by omega
   have k1:(k:Int)<(N:Int):=by omega
   have hwk:wrap64 ((k:Int)+1)=((k+1:Nat):Int):=by rw [Go.IntWalk.wrap64_in _ (by omega)];rfl
   clear hrg q1 q2 q3 hlow
   go_wp2_with (first
    |((with_reducible refine Zk 27 26 ?_);refine wpList_load_mid rfl _ _ rfl b (off+k * 35) rfl A _ HRG.out Tryz.underlying74 rfl HSZ.out ?_)
    |(go_at_call 35;refine HDO.out.mono ?_;rintro e w3 ⟨rfl,cs3,fr3,root3,va3,al3,h3⟩;have HH3:=Za h3;clear h3))
   exact ⟨⟨k+1,cs3,fr3,root3,va3,al3,by omega,rfl,by go_num,HH3⟩,by simp [intOf];omega⟩
  ·obtain rfl:k=N:=by omega
   have nlt: ¬(k:Int)<(k:Int):=by omega
   have HPE:=Za (HPost.out _ _ _ _ _ _ _ _ _ _ hS.out)
   go_wp2_with fail
   exact HPE.out
theorem Zjq (room:Int) (v:Value) (qs:List Ap) (w:World) (hv:ApAt w v qs) (hL:Laid w):Kc 3 #[.int .i64 room,v] w fun e w'=>e=.returned (.bool true)∧Kb w w':=by
 have HLa:Hid (∀w',Kb w w'→Laid w'):=fun w' hb=>hL.grow hb
 have HLG:Hid (∀lb:Bool,(lb=false↔LgOk room qs)→Kc 9 #[.int .i64 room,v] w fun e w'=>e=.returned (.bool lb)∧Kb w w'):=fun lb hlb=>Yem room v qs w hv lb hlb
 have hvg:∀w',Kb w w'→ApAt w' v qs:=fun w' hb=>by
  obtain ⟨a,c,e,h1,h2⟩:=hv;refine ⟨a,c,e,fun hp=>?_,fun i hi=>⟨(h2 i hi).1,(h2 i hi).2.1.grow hb,(h2 i hi).2.2⟩⟩;obtain ⟨b,off,e1,h3⟩:=h1 hp;exact ⟨b,off,e1,fun i hi k u hu=>Zz hb (h3 i hi k u hu)⟩
 have HPL:Hid (LgOk room qs→∀w',Kb w w'→∃rm:Nat,rm≤5000∧Kc 10 #[.int .i64 room,v] w' (PlPost9 w' rm qs.length)):=fun hg w' hb=>by
  obtain ⟨rm,rfl⟩:∃n:Nat,room=(n:Int):=⟨room.toNat,by have:=hg.1;omega⟩;exact ⟨rm,by have:=hg.2.1;omega,Yej rm v qs w' (hvg w' hb) (fun w'' h=>hL.grow (Zb hb h)) hg⟩
 clear hL hvg hv
 by_cases hg:LgOk room qs
 ·have HL1:=Za (HLG.out false (by simp [hg]));have HP1:=Za (HPL.out hg);clear HLG HPL hg;go_enter Tryz.func3,Tryz.ntmps3
  go_wp2_with (first
   |(go_at_call 9;refine HL1.out.mono ?_;rintro e w1 ⟨rfl,q1⟩;have HQ1:=Za q1;clear q1))
  obtain ⟨rm,h5,hp⟩:=HP1.out _ HQ1.out;have HP:=Za hp;have H5:=Za h5;clear hp h5
  go_wp2_with (first
   |(go_at_call 10;refine HP.out.mono ?_;rintro e w2 ⟨gc,g,gs,q,cs,fr,root,va,al,rfl,s2⟩;have HS2:=Za s2;clear s2))
  have HSB:=Za HS2.out.blk;have HSM:=Za (Zvr HS2.out H5.out (fun w' hb=>HLa.out _ (Zb HQ1.out hb)));refine wp_region_held_drew (S:=fun w'=>Kb w2 w') (by kernel_rfl) (below_drewN (Below.refl _ _) 1) (fun hHeld=>?_);refine tkp 0 (.bool true) hHeld ?_;simp only [zq];refine tkp 1 (.bool true) hHeld ?_;simp only [zq];refine tkp 2 (.pointer (some ⟨gc,0,none⟩)) hHeld ?_;simp only [zq];refine tkp 3 (.pointer (some ⟨gc,0,none⟩)) hHeld ?_;simp only [zq];refine tkp 4 (.pointer (some ⟨gc,0,none⟩)) hHeld ?_;simp only [zq];refine tkg 5 (.pointer (some ⟨g,0,none⟩)) rfl (Or.inl ⟨by rfl,fun w hS=>by (have q1:=(Zm (HSB.out.grow hS)).1;go_simp)⟩) hHeld ?_;simp only [zq];refine tkp 6 (.pointer (some ⟨gc,0,none⟩)) hHeld ?_;simp only [zq];refine tkp 7 (.pointer (some ⟨gc,0,none⟩)) hHeld ?_;simp only [zq];refine tkp 8 (.pointer (some ⟨gc,1,none⟩)) hHeld ?_;simp only [zq];refine tkg 9 (.pointer (some ⟨q,0,none⟩)) rfl (Or.inl ⟨by rfl,fun w hS=>by (have q1:=(Zm (HSB.out.grow hS)).2.1;go_simp)⟩) hHeld ?_;simp only [zq];refine wpAnyH_ready (rs:=[10]) (by kernel_rfl) (by simp) ?_;refine AllReadyH.cons rfl (fun KQ hK=>?_) AllReadyH.nil;go_simp;refine (HSM.out _ hHeld).mono ?_;rintro e z1 ⟨rfl,a1⟩;refine hK.out _ _ (Zb hHeld a1) (fun hHeld=>?_);clear hK KQ;refine tkp 11 (.bool true) hHeld ?_;simp only [zq];refine tkp 12 (.bool true) hHeld ?_;simp only [zq];refine wpAnyH_done (by kernel_rfl) ?_ _;have HH:=Za (Zb HQ1.out (Zb HS2.out.low hHeld));clear hHeld;go_wp2
  go_ret;exact ⟨rfl,HH.out⟩
 ·have HL1:=Za (HLG.out true (by simp [hg]));clear HLG HPL hg;go_enter Tryz.func3,Tryz.ntmps3
  go_wp2_with (first
   |(go_at_call 9;refine HL1.out.mono ?_;rintro e w1 ⟨rfl,q1⟩;have HQ1:=Za q1;clear q1))
  go_ret;exact ⟨rfl,HQ1.out⟩
open Go.ChangeShapes Go.WideShapes Go.ChangeAt Go.WideMaps Go.WideElems Go.RowKit
abbrev laid2:List (String×DataW Unit):=Rows.dropScriptRow.laid
abbrev nameOf (i:Nat):String:=(laid2.map (·.1)).getD i Rows.dropScriptRow.func
theorem Yjr:Tryz.prog.globalNamed (nameOf 0)=some 0:=by kernel_rfl
theorem Yhc:Tryz.prog.globalNamed (nameOf 1)=some 1:=by kernel_rfl
theorem Yig:(Tryz.prog.globals[0]?).map (·.type)=some 271:=by kernel_rfl
theorem Yfh:(Tryz.prog.globals[1]?).map (·.type)=some 285:=by kernel_rfl
theorem Zsj (os:Os) (args:Array Value):laidMetH Tryz.prog laid2 ((World.doorLaid Tryz.prog 400 os).forCall (fun _ _=>0) ⟨#[],args,[]⟩).memory:=
 laidMetH_of_parts3 (fuel:=8) (laidMet_of_run' 8 (by kernel_rfl) (by kernel_rfl)) (by kernel_rfl) (by kernel_rfl)
theorem Zvn:(Rows.laid_rootcellar_sha_first:DataW Unit)=Lib.tabData .u32 hs:=rfl
theorem Ztg:(Rows.laid_rootcellar_sha_rounds:DataW Unit)=Lib.tabData .u32 ks:=rfl
theorem Ydk:Tryz.prog.cellsOf 271=8:=by kernel_rfl
theorem Zzm:Tryz.prog.cellsOf 285=64:=by kernel_rfl
theorem Zzn:Tryz.prog.cellsOf 209=1:=by kernel_rfl
theorem Zxn (h:laidMetH Tryz.prog laid2 W):Laid W:=by
 rw [MakeChecks.laidMetH_plain _ _ _ (by kernel_rfl)] at h;obtain ⟨ps,⟨g0,t0,cs0,f0,p0,q0,hg0,ht0,hv0,hd0,⟨g1,t1,cs1,f1,p1,q1,hg1,ht1,hv1,hd1,_,_⟩,_⟩,_,_⟩:=h;obtain rfl:=Option.some.inj (Yjr.symm.trans hg0);obtain rfl:=Option.some.inj (Yhc.symm.trans hg1);obtain rfl:=Option.some.inj (Yig.symm.trans ht0);obtain rfl:=Option.some.inj (Yfh.symm.trans ht1);rw [Zvn] at hd0;rw [Ztg] at hd1;have e0:=Lib.cells_of_tab Tryz.underlying271 Tryz.underlying209 Zzn Ydk hd0;have e1:=Lib.cells_of_tab Tryz.underlying285 Tryz.underlying209 Zzn Zzm hd1;have c1:∀i,i<64→W.cell? ⟨1,i,none⟩=some (.int .u32 (ks.getD i 0)):=by
  intro i hi;rw [World.var?_cell hg1 hv1 i,← Array.getElem?_toList,e1,List.getElem?_map,List.getElem?_eq_getElem (show i<ks.length from hi)];simp [List.getD,show i<ks.length from hi]
 have c0:∀i,i<8→W.cell? ⟨0,i,none⟩=some (.int .u32 (hs.getD i 0)):=by
  intro i hi;rw [World.var?_cell hg0 hv0 i,← Array.getElem?_toList,e0,List.getElem?_map,List.getElem?_eq_getElem (show i<hs.length from hi)];simp [List.getD,show i<hs.length from hi]
 exact ⟨block_lt_of_cell (c1 0 (by omega)),c1,c0⟩
end Go.Proofs.YtgfdgjkbcdmboaaGreatDoor
