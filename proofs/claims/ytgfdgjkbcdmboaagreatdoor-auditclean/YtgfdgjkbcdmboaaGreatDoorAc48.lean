/- New, Large and Play of the laws' scenes, as contracts. -/
import Derived.Test.YtgfdgjkbcdmboaaGreatDoorAc47
import Derived.LaidMore
import Derived.Stop.Joined
import Derived.Lib.LaidTab
namespace Go.Proofs.YtgfdgjkbcdmboaaGreatDoor
set_option maxRecDepth 20000
open Go.RowKit
theorem Yah (x y:Option Addr):Tryz.prog.built 32 [(0,.pointer x),(1,.pointer y)]=some #[.pointer x,.pointer y,.int .i64 0,.slice none 0 0]:=by kernel_rfl
theorem Ykb {w w2 w3:World} {gc g gs q room:Nat} (p:P7 w [] w2 g gs q room [] []) (hg:w2.heap.size≤gc) (hb:Below w2.heap.size w2 w3) (b:Blk w3 gc 32 #[.pointer (some ⟨g,0,none⟩),.pointer (some ⟨q,0,none⟩),.int .i64 0,.slice none 0 0]):Sn w w3 gc g gs q room [] [] 0 (.slice none 0 0) [] 0:=by
 have hlow:=p.mod.below0
 obtain ⟨S,p2,n,l⟩:=p.from2
 refine ⟨⟨S,p2.rebase hb,fun k hk=>?_,fun k hk=>Nat.lt_of_lt_of_le (l k hk) hb.size,fun e=>by have:=l _ e;omega,fun k hk=>by cases hk⟩,Zb hlow hb,b,World.ownsRow_nil _ _ _ _,Nat.le_trans hlow.size hg,by simp,fun i=>?_⟩
 ·rcases n k hk with e | e
  ·cases e
  ·exact e
 ·show 0-_≤0
  omega
def NwPost (w:World) (room:Nat) (e:Ending) (w':World):Prop:=∃gc g gs q,e=.returned (.tuple #[.pointer (some ⟨gc,0,none⟩),.bool true])∧Sn w w' gc g gs q room [] [] 0 (.slice none 0 0) [] 0
set_option maxHeartbeats 4000000 in
theorem Ykd (room:Nat) (w:World) (h1:1≤room) (h2:room≤5000):Calls Tryz.prog 34 #[.int .i64 (room:Int)] w (NwPost w room):=by
 have HNW:=Za (Ygb room w h1 (by omega))
 have HNR:Hid (∀w',Calls Tryz.prog 69 #[.int .i64 (room:Int)] w' fun e w''=>∃g,e=.returned (.tuple #[.pointer (some ⟨g,0,none⟩),.int .i64 0])∧w'.heap.size≤g∧Rs w'' g (.slice none 0 0) (.slice none 0 0) room [] []∧Below w'.heap.size w' w''):=fun w'=>Ycm room w' h1 (by omega)
 have HPost:Hid (∀gc g gs q w',Sn w w' gc g gs q room [] [] 0 (.slice none 0 0) [] 0→NwPost w room (.returned (.tuple #[.pointer (some ⟨gc,0,none⟩),.bool true])) w'):=fun gc g gs q w' s=>⟨gc,g,gs,q,rfl,s⟩
 generalize NwPost w room=P at HPost ⊢
 clear h1 h2
 go_enter Tryz.func34,Tryz.ntmps34
 go_wp2_with (first
  |(go_at_call 68;refine HNW.out.mono ?_;rintro e w1 ⟨g,gs,rfl,h1⟩;have HH1:=Za h1;clear h1)
  |(go_at_call 69;refine (HNR.out _).mono ?_;rintro e w2 ⟨q,rfl,h2,d2,b2⟩;have HP2:=Za (Ykv HH1.out h2 d2 b2);clear h2 d2 b2)
  |((with_reducible refine Zfi 20 ?_);refine Zai _ rfl _ _ rfl _ (by rw [List.map_toArray];exact Yah _ _) ?_)
  |((with_reducible refine Zo 21 ?_);refine Zc _ rfl _ _ rfl _ rfl ?_;intro w3 gc hg3 hl3 B3 q3;have HN3:=Za (Ykb HP2.out hg3 q3 B3);clear hg3 hl3 B3 q3))
 exact HPost.out _ _ _ _ _ HN3.out
def LgOk (room:Int) (qs:List Ap):Prop:=1≤room∧room≤5000∧qs.length≤16∧∀i,i<qs.length→(qs.getD i default).bs.length≤2000
def LgPost (b:Bool) (w:World) (e:Ending) (w':World):Prop:=e=.returned (.bool b)∧Below w.heap.size w w'
set_option maxHeartbeats 4000000 in
theorem Ylc (room:Int) (v:Value) (qs:List Ap) (w:World) (hv:ApAt w v qs) (lb:Bool) (hlb:lb=false↔LgOk room qs):Calls Tryz.prog 9 #[.int .i64 room,v] w (LgPost lb w):=by
 obtain ⟨a,c,rfl,hcell,hall⟩:=hv
 have HP1:Hid (¬LgOk room qs→∀w',Below w.heap.size w w'→LgPost lb w (.returned (.bool true)) w'):=fun hn w' hb=>⟨by
  cases lb with
  | true=>rfl
  | false=>exact absurd (hlb.1 rfl) hn,hb⟩
 obtain ⟨N,hN⟩:∃N,N=qs.length:=⟨_,rfl⟩
 have HP0:Hid (1≤room→room≤5000→N≤16→(∀i,i<N→(qs.getD i default).bs.length≤2000)→∀w',Below w.heap.size w w'→LgPost lb w (.returned (.bool false)) w'):=fun h1 h2 h3 h4 w' hb=>⟨by rw [hlb.2 ⟨h1,h2,by rw [← hN];exact h3,fun i hi=>h4 i (by rw [hN];exact hi)⟩],hb⟩
 have HNL:Hid (N=qs.length):=hN
 rw [← hN]
 have HCE:Hid (∀i,i<N→∃b off va vc,a=some ⟨b,off,none⟩∧∀w',Below w.heap.size w w'→w'.cell? ⟨b,off+i * 35+33,none⟩=some (.slice va (qs.getD i default).bs.length vc)):=fun i hi=>by
  obtain ⟨b,off,e1,hrg⟩:=hcell (by rw [← hN];omega)
  obtain ⟨q1,q2,_⟩:=hall i (by rw [← hN];exact hi)
  obtain ⟨va,vc,e2,_⟩:=q2
  refine ⟨b,off,va,vc,e1,fun w' hb=>Zp hb ?_⟩
  refine hrg i (by rw [← hN];exact hi) 33 _ ?_
  rw [← e2]
  exact (Zqt q1.1).1
 generalize LgPost lb w=P at HP1 HP0 ⊢
 clear hcell hall hN hlb
 by_cases r1:room<1
 ·have HP2:=Za (HP1.out (fun q=>by have:=q.1;omega))
  go_enter Tryz.func9,Tryz.ntmps9
  go_wp2
  exact HP2.out _ (Below.refl _ _)
 ·by_cases r2:5000<room
  ·have HP2:=Za (HP1.out (fun q=>by have:=q.2.1;omega))
   go_enter Tryz.func9,Tryz.ntmps9
   go_wp2
   exact HP2.out _ (Below.refl _ _)
  ·by_cases r3:16<N
   ·have r31:(16:Int)<(N:Int):=by omega
    have HP2:=Za (HP1.out (fun q=>by have:=q.2.2.1;rw [← HNL.out] at this;omega))
    go_enter Tryz.func9,Tryz.ntmps9
    go_wp2
    exact HP2.out _ (Below.refl _ _)
   ·have r31: ¬(16:Int)<(N:Int):=by omega
    have hN16:N≤16:=by omega
    have HRR:Hid (1≤room∧room≤5000):=by show _∧_;omega
    go_enter Tryz.func9,Tryz.ntmps9
    go_wp2_with fail
    go_loopw [5] (fun iv wr=>∃(k:Nat),k≤N∧iv=.int .i64 (k:Int)∧Hid (∀i,i<k→(qs.getD i default).bs.length≤2000)∧Hid (Below w.heap.size w wr)) (fun iv _=>N-(intOf iv).toNat)
    case atStart=>exact ⟨0,by omega,rfl,fun i hi=>absurd hi (by omega),Below.refl _ _⟩
    case round=>
     obtain ⟨k,hk,rfl,hA,hB⟩:=hrel
     by_cases hlt:k<N
     ·obtain ⟨b,off,va,vc,rfl,hcv0⟩:=HCE.out k hlt
      have hcv:=hcv0 _ hB.out
      have HVN:Hid ((qs.getD k default).bs.length=(qs.getD k default).bs.length):=rfl
      obtain ⟨vn,hvn⟩:∃vn,vn=(qs.getD k default).bs.length:=⟨_,rfl⟩
      rw [← hvn] at hcv
      have HVE:=Za hvn
      have k0:(0:Int)≤(k:Int):=by omega
      have k1:(k:Int)<(N:Int):=by omega
      have hwk:wrap64 ((k:Int)+1)=((k+1:Nat):Int):=by rw [Go.IntWalk.wrap64_in _ (by omega)];rfl
      clear hcv0 hvn HVN
      by_cases hv2:2000<vn
      ·have j1:(2000:Int)<(vn:Int):=by omega
       have HP2:=Za (HP1.out (fun q=>by have:=q.2.2.2 k (by rw [← HNL.out];exact hlt);rw [← HVE.out] at this;omega))
       go_wp2
       exact HP2.out _ hB.out
      ·have j1: ¬(2000:Int)<(vn:Int):=by omega
       go_wp2_with fail
       refine ⟨⟨k+1,by omega,by go_num,fun i hi=>?_,hB⟩,by simp [intOf];omega⟩
       by_cases e:i<k
       ·exact hA.out i e
       ·obtain rfl:i=k:=by omega
        rw [← HVE.out]
        omega
     ·obtain rfl:k=N:=by omega
      have nlt: ¬(k:Int)<(k:Int):=by omega
      have HPE:=Za (HP0.out HRR.out.1 HRR.out.2 hN16 hA.out _ hB.out)
      go_wp2_with fail
      exact HPE.out
def PlPost9x (w:World) (room:Nat) (n:Nat) (e:Ending) (w':World):Prop:=∃gc g gs q cs fr root va al,e=.returned (.tuple #[.pointer (some ⟨gc,0,none⟩),.bool true])∧Sn w w' gc g gs q room cs fr root va al n∧Ex n cs root al
def PlPost9 (w:World) (room:Nat) (n:Nat) (e:Ending) (w':World):Prop:=∃gc g gs q cs fr root va al,e=.returned (.tuple #[.pointer (some ⟨gc,0,none⟩),.bool true])∧Sn w w' gc g gs q room cs fr root va al n
set_option maxHeartbeats 4000000 in
theorem Ykt (room:Nat) (v:Value) (qs:List Ap) (w:World) (hv:ApAt w v qs) (hL:∀w',Below w.heap.size w w'→Laid w') (hg:LgOk (room:Int) qs):Calls Tryz.prog 16 #[.int .i64 (room:Int),v] w (PlPost9x w room qs.length):=by
 obtain ⟨a,c,rfl,hcell,hall⟩:=hv
 obtain ⟨g1,g2,g3,g4⟩:=hg
 have HNW:=Za (Ykd room w (by omega) (by omega))
 obtain ⟨N,hN⟩:∃N,N=qs.length:=⟨_,rfl⟩
 rw [← hN] at g3 g4 hcell hall
 have HPost:Hid (∀gc g gs q cs fr root va al w',Sn w w' gc g gs q room cs fr root va al N→Ex N cs root al→PlPost9x w room qs.length (.returned (.tuple #[.pointer (some ⟨gc,0,none⟩),.bool true])) w'):=fun gc g gs q cs fr root va al w' s z=>⟨gc,g,gs,q,cs,fr,root,va,al,rfl,by rw [← hN];exact s,by rw [← hN];exact z⟩
 rw [← hN]
 rw [← hN] at HPost
 have HCE:=Za hcell
 have HAL:=Za hall
 have HG4:=Za g4
 have HLa:=Za hL
 have HRM:Hid (room≤5000):=by show _≤_;omega
 generalize PlPost9x w room N=P at HPost ⊢
 clear hcell hall hN hL g1 g2 g4
 go_enter Tryz.func16,Tryz.ntmps16
 go_wp2_with (first
  |(go_at_call 34;refine HNW.out.mono ?_;rintro e w1 ⟨gc,g,gs,q,rfl,s1⟩;have HS1:=Za s1;clear s1))
 clear HNW
 go_loopw [7,8] (fun bv iv wr=>∃(k:Nat) (cs:List (Nat×Ce)) (fr:List Nat) (root:Int) (va:Value) (al:List Int),k≤N∧bv=.bool true∧iv=.int .i64 (k:Int)∧Hid (Sn w wr gc g gs q room cs fr root va al k)∧Hid (Ex k cs root al)) (fun _ iv _=>N-(intOf iv).toNat)
 case atStart=>exact ⟨0,[],[],0,_,[],by omega,rfl,rfl,HS1,Ylt⟩
 case round=>
  clear HS1
  obtain ⟨k,cs,fr,root,va,al,hk,rfl,rfl,hS,hX⟩:=hrel
  by_cases hlt:k<N
  ·obtain ⟨b,off,rfl,hrg⟩:=HCE.out (by omega)
   have hlow:=hS.out.low
   have HRG:Hid (wr.rangeAt b (off+k * 35) (apC (qs.getD k default))):=fun j u hu=>Zp hlow (hrg k hlt j u hu)
   obtain ⟨q1,q2,q3⟩:=HAL.out k hlt
   have HDO:=Za (Yke hS.out HRM.out (by omega) HLa.out (qs.getD k default) q1 (fun w' hb=>q2.grow hb) (HG4.out k hlt))
   have HSZ:Hid ((Tryz.prog.info? 74).map (·.size)=some (apC (qs.getD k default)).length):=by
    show _=_
    rw [apC,Zbm _ _ _ _ q1.1]
    exact Zcc
   generalize apC (qs.getD k default)=A at HRG HDO HSZ
   have k0:(0:Int)≤(k:Int):=by omega
   have k1:(k:Int)<(N:Int):=by omega
   have hwk:wrap64 ((k:Int)+1)=((k+1:Nat):Int):=by rw [Go.IntWalk.wrap64_in _ (by omega)];rfl
   clear hrg q1 q2 q3 hlow
   go_wp2_with (first
    |((with_reducible refine Zk 27 26 ?_);refine wpList_load_mid rfl _ _ rfl b (off+k * 35) rfl A _ HRG.out Tryz.underlying74 rfl HSZ.out ?_)
    |(go_at_call 59;refine HDO.out.mono ?_;rintro e w3 ⟨rfl,cs3,fr3,root3,va3,al3,h3,z3⟩;have HH3:=Za h3;have HX3:=Za (z3 _ hX.out);clear h3 z3))
   exact ⟨⟨k+1,cs3,fr3,root3,va3,al3,by omega,rfl,by go_num,HH3,HX3⟩,by simp [intOf];omega⟩
  ·obtain rfl:k=N:=by omega
   have nlt: ¬(k:Int)<(k:Int):=by omega
   have HPE:=Za (HPost.out _ _ _ _ _ _ _ _ _ _ hS.out hX.out)
   go_wp2_with fail
   exact HPE.out
theorem Yay (A:List Nat) (i:Nat):(zN A).count ((i:Int)+1)=A.count (i+1):=by
 induction A with
 | nil=>rfl
 | cons a A ih=>
  show (((a:Int))::zN A).count _=_
  rw [List.count_cons,List.count_cons,ih]
  congr 1
  by_cases e:a=i+1
  ·rw [if_pos (by simp;omega),if_pos (by simpa using e)]
  ·rw [if_neg (by simp;omega),if_neg (by simpa using e)]
theorem Ykx (l:List Nat):nats l=(zN l).map (Value.int .i64):=by simp [nats,zN]
theorem Yfm (A C:List Nat):zN (A++C)=zN A++zN C:=by simp [zN]
def rtsOf (A:List Nat) (n:Nat):List Nat:=A++(if n=0 then [] else [n])
theorem Yep {k:Nat} {cs:List (Nat×Ce)} {root:Int} {al:List Int} (h:Ex k cs root al) (few:al.length≤9):∃(A:List Nat) (n:Nat),al=zN A∧root=(n:Int)∧Hld cs (rtsOf A n)∧(∀x∈rtsOf A n,x≠0∧∃T,Rt cs x T∧T.ents.length≤k)∧(rtsOf A n).length≤10:=by
 obtain ⟨n,rfl,T,r,lr⟩:=h.root
 have ex:∃A:List Nat,al=zN A∧∀a∈A,(a:Int)∈al:=by
  refine ⟨al.map Int.toNat,?_,fun a ha=>?_⟩
  ·unfold zN
   rw [List.map_map]
   conv=>lhs;rw [← List.map_id al]
   refine List.map_congr_left (fun x hx=>?_)
   obtain ⟨m,rfl,_⟩:=h.al x hx
   rfl
  ·obtain ⟨x,hx,rfl⟩:=List.mem_map.1 ha
   obtain ⟨m,rfl,_⟩:=h.al x hx
   exact hx
 obtain ⟨A,rfl,hA⟩:=ex
 have hx:∀x∈rtsOf A n,x≠0∧∃T,Rt cs x T∧T.ents.length≤k:=fun x hx=>by
  unfold rtsOf at hx
  rcases List.mem_append.1 hx with q | q
  ·obtain ⟨m,e,m0,U,ru,lu⟩:=h.al _ (hA x q)
   obtain rfl:m=x:=by omega
   exact ⟨m0,U,ru,lu⟩
  ·by_cases n0:n=0
   ·rw [if_pos n0] at q
    cases q
   ·rw [if_neg n0] at q
    obtain rfl:=List.mem_singleton.1 q
    exact ⟨n0,T,r,lr⟩
 refine ⟨A,n,rfl,rfl,⟨fun i=>?_,fun x hm h0=>?_⟩,hx,?_⟩
 ·rw [h.own i,Yay,rtsOf,List.count_append]
  congr 1
  by_cases n0:n=0
  ·rw [if_pos n0,if_neg (by omega)]
   rfl
  ·rw [if_neg n0,List.count_singleton]
   by_cases e:n=i+1
   ·rw [if_pos (by omega),if_pos (by simpa using e)]
   ·rw [if_neg (by omega),if_neg (by simpa using e)]
 ·obtain ⟨_,U,ru,_⟩:=hx x hm
  rcases ru.tree.occ with e | e
  ·exact absurd e h0
  ·exact e.2
 ·rw [Zan] at few
  unfold rtsOf
  rw [List.length_append]
  split <;> simp <;> omega
theorem Yfq {k:Nat} {cs:List (Nat×Ce)} {R:List Nat} (h:Hld cs R) (hx:∀x∈R,x≠0∧∃T,Rt cs x T∧T.ents.length≤k) (hl:R.length≤10):Rts cs R:=by
 refine ⟨?_,h.lv⟩
 rw [auE,if_neg (by rw [Zan];omega)]
 have:∀L:List Nat,(∀x∈L,x∈R)→frE (cot cs) (cat cs) (zN L)=0:=fun L=>by
  induction L with
  | nil=>intro _;rfl
  | cons a L ih=>
   intro hs
   show (if vRt true (cot cs a) (cat cs a) a=0 then _ else _)=0
   obtain ⟨_,T,r,_⟩:=hx a (hs a (by simp))
   rw [if_pos r.root]
   exact ih (fun x q=>hs x (by simp [q]))
 exact this R (fun _ h=>h)
theorem Sn.au {w0 w:World} {gc g gs q room:Nat} {cs:List (Nat×Ce)} {fr:List Nat} {root:Int} {va:Value} {al:List Int} {nb:Nat} (h:Sn w0 w gc g gs q room cs fr root va al nb):Au w (.pointer (some ⟨g,0,none⟩)) cs:=by
 obtain ⟨S,p,_⟩:=h.ex
 obtain ⟨S',hs⟩:=p.hs
 exact hs.au
theorem Zve {w:World} {base:Nat} {v:Value} {R:List Nat} (h:w.ownsRow base 3 1 v R.length ((zN R).map (Value.int .i64))):Zs w v (zN R):=by
 rw [← Ykx] at h
 obtain ⟨a,c,rfl⟩:=Zi (Zt h)
 refine ⟨a,c,by rw [Zan],fun k hk=>?_⟩
 rw [Zan] at hk
 obtain ⟨g,e1,e2⟩:=Zgx (Zt h) rfl k hk
 refine ⟨g,0,e1,?_⟩
 rw [Nat.zero_add,e2,Zqx R k hk,List.getD_eq_getElem?_getD,List.getElem?_eq_getElem hk]
 rfl
theorem Yhl (w:World) (x:Int):(w.alloc (.cells #[.int .i64 x] 3)).ownsRow w.heap.size 3 1 (.slice (some ⟨w.heap.size,0,none⟩) 1 1) 1 [.int .i64 x]:=⟨rfl,.inr ⟨w.heap.size,1, #[.int .i64 x],rfl,Nat.le_refl _,Blk.new _ _ _,Nat.le_refl _,by simp only [maxLen];omega,rfl,rfl⟩⟩
theorem Yab {k:Nat} {w:World} {v:Value} {cs:List (Nat×Ce)} {R:List Nat} (A:Au w v cs) (h:Hld cs R) (hx:∀x∈R,x≠0∧∃T,Rt cs x T∧T.ents.length≤k) (hl:R.length≤10) (w':World) (v':Value) (hb:Below w.heap.size w w') (row:w'.ownsRow w.heap.size 3 1 v' R.length ((zN R).map (Value.int .i64))):Calls Tryz.prog 17 #[v,v'] w' fun e w''=>∃a c,e=.returned (.tuple #[.slice a 0 c,.int .i64 0])∧Below w'.heap.size w' w'':=by
 refine (Zjt (A.grow hb) (Yfq h hx hl) (Zve row)).mono ?_
 rintro e w'' ⟨P,a,c,rfl,q1,q2,q3⟩
 rw [h.found A.wf q1]
 exact ⟨a,c,rfl,q3⟩
theorem Zuq {k:Nat} {w:World} {v:Value} {cs:List (Nat×Ce)} {R:List Nat} (A:Au w v cs) (h:Hld cs R) (hx:∀x∈R,x≠0∧∃T,Rt cs x T∧T.ents.length≤k) (hl:R.length≤10) (w':World) (v':Value) (hb:Below w.heap.size w w') (row:w'.ownsRow w.heap.size 3 1 v' R.length ((zN R).map (Value.int .i64))):Calls Tryz.prog 22 #[v,v'] w' fun e w''=>∃a c,e=.returned (.tuple #[.slice a 0 c,.int .i64 0])∧Below w'.heap.size w' w'':=by
 refine (Ydm (A.grow hb) (Yfq h hx hl) (Zve row)).mono ?_
 rintro e w'' ⟨P,a,c,rfl,q1,q2,q3⟩
 rw [h.lost A.wf q1]
 exact ⟨a,c,rfl,q3⟩
theorem Ydh {cs:List (Nat×Ce)} (W:Wf cs []) (h:Hld cs []):noc cs=0:=by
 have hP:RdA cs [] []:=⟨rfl,fun _ hx=>by cases hx⟩
 have e:slotsOf (cs.map pl)=[]:=List.eq_nil_iff_forall_not_mem.2 (fun x hx=>by
  have h1:=h.all W hP (x-1) ((Zbn cs x).1 hx).2
  cases h1)
 have:=Zbi (cs.map pl)
 rw [e] at this
 exact this.symm
theorem Ykg {k:Nat} {cs:List (Nat×Ce)} {R R':List Nat} (h:Hld cs R) (hx:∀x∈R,x≠0∧∃T,Rt cs x T∧T.ents.length≤k) (hs:∀x∈R',x∈R) (hl:R'.length≤10):Rts cs R':=by
 refine ⟨?_,fun x hm=>h.lv x (hs x hm)⟩
 rw [auE,if_neg (by rw [Zan];omega)]
 have:∀L:List Nat,(∀x∈L,x∈R)→frE (cot cs) (cat cs) (zN L)=0:=fun L=>by
  induction L with
  | nil=>intro _;rfl
  | cons a L ih=>
   intro hs
   show (if vRt true (cot cs a) (cat cs a) a=0 then _ else _)=0
   obtain ⟨_,T,r,_⟩:=hx a (hs a (by simp))
   rw [if_pos r.root]
   exact ih (fun x q=>hs x (by simp [q]))
 exact this R' hs
theorem Zzs (R:List Nat) (p:Nat) (hp:p<R.length) (x:Nat):(R.take p++R.drop (p+1)).count x+(if x=R[p] then 1 else 0)=R.count x:=by
 have e:R=R.take p++(R[p]::R.drop (p+1)):=by rw [List.getElem_cons_drop,List.take_append_drop]
 have e2:=congrArg (List.count x) e
 rw [List.count_append,List.count_cons] at e2
 rw [List.count_append,e2]
 by_cases q:x=R[p]
 ·rw [if_pos q,if_pos (by rw [q];exact beq_self_eq_true _)]
  omega
 ·rw [if_neg q,if_neg (by simpa using fun z=>q z.symm)]
  omega
theorem Ygd (cs:List (Nat×Ce)) (P:List Nat):∀(F:List Nat) (k x:Nat),F[k]?=some x→(flF cs P F)[k * 3+1]?=some (.int .i64 (wnt P (x:Int):Int))∧(flF cs P F)[k * 3+2]?=some (.int .i64 (cc cs (x-1):Int))
 | [],k,x,h=>by simp at h
 | a::F,0,x,h=>by
  obtain rfl:a=x:=by simpa using h
  exact ⟨rfl,rfl⟩
 | a::F,k+1,x,h=>by
  have:=Ygd cs P F k x (by simpa using h)
  rw [show (k+1) * 3+1=(k * 3+1)+1+1+1 by omega,show (k+1) * 3+2=(k * 3+2)+1+1+1 by omega,Zqg]
  simpa using this
theorem Ydo {k:Nat} {w:World} {v:Value} {cs:List (Nat×Ce)} {R:List Nat} (A:Au w v cs) (h:Hld cs R) (hx:∀x∈R,x≠0∧∃T,Rt cs x T∧T.ents.length≤k) (hl:R.length≤10) (p:Nat) (hp:p<R.length) (base:Nat) (w':World) (v':Value) (hb:Below w.heap.size w w') (row:w'.ownsRow base 3 1 v' (R.take p++R.drop (p+1)).length ((zN (R.take p++R.drop (p+1))).map (Value.int .i64))):Calls Tryz.prog 17 #[v,v'] w' fun e w''=>∃b c m,e=.returned (.tuple #[.slice (some ⟨b,0,none⟩) m c,.int .i64 0])∧0<m∧m≤65536∧(∀j,j<m→∃x y:Nat,x<y∧w''.cell? ⟨b,j * 3+1,none⟩=some (.int .i64 (x:Int))∧w''.cell? ⟨b,j * 3+2,none⟩=some (.int .i64 (y:Int)))∧Below w'.heap.size w' w'':=by
 have hsub:∀x∈R.take p++R.drop (p+1),x∈R:=fun x q=>(List.mem_append.1 q).elim List.mem_of_mem_take List.mem_of_mem_drop
 refine (Zjt (A.grow hb) (Ykg h hx hsub (by rw [List.length_append,List.length_take,List.length_drop];omega)) (Zve row)).mono ?_
 rintro e w'' ⟨P,a,c,rfl,q1,q2,q3⟩
 obtain ⟨f1,f2⟩:=h.less A.wf (hx _ (List.getElem_mem hp)).1 (Zzs R p hp) q1
 have hsl:(fnA cs P (slotsOf (cs.map pl))).length≤65536:=by
  have h1:(fnA cs P (slotsOf (cs.map pl))).length≤(slotsOf (cs.map pl)).length:=List.length_filter_le _ _
  rw [Zbi] at h1
  have h2:occs (cs.map pl)≤(cs.map pl).length:=by
   unfold occs
   exact List.countP_le_length
  rw [List.length_map] at h2
  have:=A.le
  omega
 generalize fnA cs P (slotsOf (cs.map pl))=F at f1 f2 q2 hsl ⊢
 have hm:0<F.length:=List.length_pos_iff.2 f1
 obtain ⟨b,c',eb,_⟩:=Zax (Zt q2) hm
 injection eb with e1 e2 e3
 subst e1
 refine ⟨b,c,F.length,rfl,hm,hsl,fun j hj=>?_,q3⟩
 obtain ⟨z1,z2⟩:=Ygd cs P F j F[j] (List.getElem?_eq_getElem hj)
 refine ⟨_,_,f2 _ (List.getElem_mem hj),?_,?_⟩
 ·rw [Zay (Zt q2) _ (by omega)]
  exact z1
 ·rw [Zay (Zt q2) _ (by omega)]
  exact z2
set_option maxHeartbeats 16000000 in
theorem Zjw (room:Int) (v:Value) (qs:List Ap) (out:Int) (w:World) (hv:ApAt w v qs) (hL:Laid w):Calls Tryz.prog 7 #[.int .i64 room,v,.int .i64 out] w fun e w'=>e=.returned (.bool true)∧Below w.heap.size w w':=by
 have HLa:Hid (∀w',Below w.heap.size w w'→Laid w'):=fun w' hb=>hL.grow hb
 have HAW:=Za (Zqq w hL)
 have hvg:∀w',Below w.heap.size w w'→ApAt w' v qs:=fun w' hb=>by
  obtain ⟨a,c,e,h1,h2⟩:=hv
  refine ⟨a,c,e,fun hp=>?_,fun i hi=>⟨(h2 i hi).1,(h2 i hi).2.1.grow hb,(h2 i hi).2.2⟩⟩
  obtain ⟨b,off,e1,h3⟩:=h1 hp
  exact ⟨b,off,e1,fun i hi k u hu=>Zp hb (h3 i hi k u hu)⟩
 have HLG:Hid (∀lb:Bool,(lb=false↔LgOk room qs)→∀w',Below w.heap.size w w'→Calls Tryz.prog 9 #[.int .i64 room,v] w' fun e w''=>e=.returned (.bool lb)∧Below w'.heap.size w' w''):=fun lb hlb w' hb=>Ylc room v qs w' (hvg w' hb) lb hlb
 have HPL:Hid (LgOk room qs→∀w',Below w.heap.size w w'→∃rm:Nat,rm≤5000∧Calls Tryz.prog 16 #[.int .i64 room,v] w' (PlPost9x w' rm qs.length)):=fun hg w' hb=>by
  obtain ⟨rm,rfl⟩:∃n:Nat,room=(n:Int):=⟨room.toNat,by have:=hg.1;omega⟩
  exact ⟨rm,by have:=hg.2.1;omega,Ykt rm v qs w' (hvg w' hb) (fun w'' h=>hL.grow (Zb hb h)) hg⟩
 obtain ⟨va0,vc0,hv0⟩:∃a c,v=.slice a qs.length c:=by
  obtain ⟨a,c,e,_⟩:=hv
  exact ⟨a,c,e⟩
 subst hv0
 obtain ⟨N,hN⟩:∃n,n=qs.length:=⟨_,rfl⟩
 rw [← hN] at HLG HPL ⊢
 have HN:=Za hN
 clear hL hvg hv hN
 by_cases hg:LgOk room qs
 ·have HL1:=Za (HLG.out false (by simp [hg]))
  by_cases h8:8<N
  ·have h81:(8:Int)<(N:Int):=by omega
   clear HPL HLG
   go_enter Tryz.func7,Tryz.ntmps7
   go_wp2_with (first
    |(go_at_call 30;refine HAW.out.mono ?_;rintro e w1 ⟨rfl,q1⟩;have HQ1:=Za q1;clear q1)
    |(go_at_call 9;refine (HL1.out _ HQ1.out).mono ?_;rintro e w2 ⟨rfl,q2⟩;have HQ2:=Za (Zb HQ1.out q2);clear q2))
   go_ret
   exact ⟨rfl,HQ2.out⟩
  ·have h81: ¬(8:Int)<(N:Int):=by omega
   have HP1:=Za (HPL.out hg)
   clear HLG HPL hg
   go_enter Tryz.func7,Tryz.ntmps7
   go_wp2_with (first
    |(go_at_call 30;refine HAW.out.mono ?_;rintro e w1 ⟨rfl,q1⟩;have HQ1:=Za q1;clear q1)
    |(go_at_call 9;refine (HL1.out _ HQ1.out).mono ?_;rintro e w2 ⟨rfl,q2⟩;have HQ2:=Za (Zb HQ1.out q2);clear q2;obtain ⟨rm,h5,hp⟩:=HP1.out _ HQ2.out;have HP:=Za hp;clear hp h5)
    |(go_at_call 16;refine HP.out.mono ?_;rintro e w3 ⟨gc,g,gs,q,cs,fr,root,va,al,rfl,s3,x3⟩;have HQ3:=Za (Zb HQ2.out s3.low);obtain ⟨A,n,eal,ert,hh,hx,h10⟩:=Yep x3 s3.few;subst eal;subst ert;obtain ⟨R,hR⟩:∃R,R=rtsOf A n:=⟨_,rfl⟩;rw [← hR] at hh hx h10;have HER:=Za hR;have HAU:=Za s3.au;have HEX:=Za s3.ex;have HHL:=Za hh;have HXX:=Za hx;have H10:=Za h10;have HFW:=Za s3.few;have HBK:=Za s3.blk;obtain ⟨y0,y1,y2,y3⟩:=Zq s3.blk;have HRW:Hid (w3.ownsRow w2.heap.size 3 1 va A.length ((zN A).map (Value.int .i64))):=(by have:=s3.aside;rw [Zan] at this;exact this);obtain ⟨va',vc',eva⟩:=Zi (Zt HRW.out);subst eva;have HCK:=Za (Yab HAU.out HHL.out HXX.out H10.out);have HLO:=Za (Zuq HAU.out HHL.out HXX.out H10.out);clear s3 x3 hh hx h10 hR;rcases (show Hid (n=0)∨Hid (¬n=0) from Classical.em _) with HZ | HNZ)
    |(refine Zor _ rfl rfl ?_;intro w4 g4 hg4 o4 q4;have HO4:=Za o4;have HQ4:=Za q4;have y3':=Zp q4 y3;clear hg4 o4 q4)
    |(at_builtin;have mk:=HZ;clear mk;refine Zfk _ rfl _ _ rfl w3.heap.size w2.heap.size _ _ 0 A.length [] ((zN A).map (Value.int .i64)) rfl rfl HO4.out (Zl HRW.out HQ4.out) (by intro u hu;obtain ⟨_,_,rfl⟩:=List.mem_map.1 hu;rfl) (by have:=HFW.out;rw [Zan] at this;omega) HQ4.out.size ?_;intro v5 w6 o5 g5;have HB6:=Za (Zaa HQ4.out HO4.out (Nat.le_refl _) g5);rw [List.nil_append,Nat.zero_add] at o5;have HR6:Hid (w6.ownsRow w3.heap.size 3 1 v5 R.length ((zN R).map (Value.int .i64))):=(by have e:R=A:=(by rw [HER.out,rtsOf,if_pos HZ.out,List.append_nil]);show World.ownsRow _ _ _ _ _ _ _;rw [e];exact o5);obtain ⟨ra,rc,erv⟩:=Zi (Zt HR6.out);subst erv;have z0:=Zp HB6.out y0;have z2:=Zp HB6.out y2;have n1:n=0:=HZ.out;have n2:(n:Int)=0:=(by omega);clear o5 g5)
    |(at_builtin;have mk:=HNZ;clear mk;refine Zfk _ rfl _ _ rfl w3.heap.size w2.heap.size _ _ 0 A.length [] ((zN A).map (Value.int .i64)) rfl rfl HO4.out (Zl HRW.out HQ4.out) (by intro u hu;obtain ⟨_,_,rfl⟩:=List.mem_map.1 hu;rfl) (by have:=HFW.out;rw [Zan] at this;omega) HQ4.out.size ?_;intro v5 w5 o5 g5;have HB5:=Za (Zaa HQ4.out HO4.out (Nat.le_refl _) g5);rw [List.nil_append,Nat.zero_add] at o5;have HO5:=Za (Zl o5 (Zd w5 (.cells #[.int .i64 (n:Int)] 3)));obtain ⟨ra0,rc0,erv⟩:=Zi (Zt o5);subst erv;have z0:=Zp HB5.out y0;have z2:=Zp HB5.out y2;have n1: ¬n=0:=HNZ.out;have n2: ¬(n:Int)=0:=(by omega);have HB5':=Za (Zb HB5.out (Zd w5 (.cells #[.int .i64 (n:Int)] 3)));clear o5 g5 HO4)
    |(at_builtin;refine Zfk _ rfl _ _ rfl w3.heap.size w5.heap.size _ (.slice (some ⟨w5.heap.size,0,none⟩) 1 1) A.length 1 ((zN A).map (Value.int .i64)) [.int .i64 (n:Int)] rfl rfl HO5.out (Yhl w5 (n:Int)) (by intro u hu;simp at hu;subst hu;rfl) (by have:=HFW.out;rw [Zan] at this;omega) HB5'.out.size ?_;intro v6 w6 o6 g6;have HB6:=Za (Zaa HB5'.out HO5.out (Nat.le_refl _) g6);have HR6:Hid (w6.ownsRow w3.heap.size 3 1 v6 R.length ((zN R).map (Value.int .i64))):=(by have e:R=A++[n]:=(by rw [HER.out,rtsOf,if_neg HNZ.out]);show World.ownsRow _ _ _ _ _ _ _;rw [e,List.length_append,Yfm,List.map_append];exact o6);obtain ⟨ra,rc,erv⟩:=Zi (Zt HR6.out);subst erv;have z0:=Zp HB6.out y0;clear o6 g6)
    |(go_at_call 17;refine (HCK.out _ _ HB6.out HR6.out).mono ?_;rintro e w7 ⟨fa,fc,rfl,b7⟩;have HB7:=Za (Zb HB6.out b7);have HR7:=Za (Zl HR6.out b7);have z0:=Zp HB7.out y0;clear b7)
    |(go_at_call 22;refine (HLO.out _ _ HB7.out HR7.out).mono ?_;rintro e w8 ⟨ka,kc,rfl,b8⟩;have HB8:=Za (Zb HB7.out b8);have HR8:=Za (Zl HR7.out b8);clear b8))
   all_goals (
    obtain ⟨M,hM⟩:∃M,M=R.length:=⟨_,rfl⟩
    rw [← hM] at HR8 ⊢
    have HM:=Za hM
    have hM10:M≤10:=by rw [hM];exact H10.out
    have HG0:Hid (∀w',Below w8.heap.size w8 w'→w'.cell? ⟨gc,0,none⟩=some (.pointer (some ⟨g,0,none⟩))):=fun w' hb=>Zp (Zb HB8.out hb) y0
    have HIX:Hid (∀k,k<M→∃b x,ra=some ⟨b,0,none⟩∧R[k]?=some x∧w8.cell? ⟨b,k,none⟩=some (.int .i64 (x:Int))):=fun k hk=>by
     have row:=HR8.out
     rw [← Ykx] at row
     obtain ⟨b,e1,e2⟩:=Zgx (Zt row) HM.out k hk
     have hkR:k<R.length:=by rw [← HM.out];exact hk
     refine ⟨b,R[k],e1,List.getElem?_eq_getElem hkR,?_⟩
     rw [e2,List.getD_eq_getElem?_getD,List.getElem?_eq_getElem hkR]
     rfl
    have HSA:Hid (∀x∈R,∀w',Below w8.heap.size w8 w'→Calls Tryz.prog 28 #[.pointer (some ⟨g,0,none⟩),.int .i64 (x:Int)] w' fun e w''=>e=.returned (.tuple #[.bool true,.int .i64 0])∧Below w'.heap.size w' w''):=fun x hx w' hb=>by
     obtain ⟨_,T,rt,lt⟩:=HXX.out x hx
     have hb3:=Zb HB8.out hb
     exact Ygu (HAU.out.grow hb3) (HLa.out _ (Zb HQ3.out hb3)) rt (by have:=HN.out;omega)
    clear hM
    go_loopw [15] (fun iv wr=>∃k:Nat,k≤M∧iv=.int .i64 (k:Int)∧Hid (Below w8.heap.size w8 wr)) (fun iv _=>M-(intOf iv).toNat)
    case atStart=>exact ⟨0,by omega,rfl,Below.refl _ _⟩
    case round=>
     obtain ⟨k,hk,rfl,HW9⟩:=hrel
     by_cases hlt:k<M
     ·obtain ⟨rb,x,era,hx,hce⟩:=HIX.out k hlt
      subst era
      have HCE:Hid (∀w',Below wr.heap.size wr w'→w'.cell? ⟨rb,k,none⟩=some (.int .i64 (x:Int))):=fun w' hb=>Zp (Zb HW9.out hb) hce
      have HSN:=Za (HSA.out x (List.mem_of_getElem? hx))
      generalize (x:Int)=y at HCE HSN
      have k0:(0:Int)≤(k:Int):=by omega
      have k1:(k:Int)<(M:Int):=by omega
      have hwk:wrap64 ((k:Int)+1)=((k+1:Nat):Int):=by rw [Go.IntWalk.wrap64_in _ (by omega)];rfl
      clear hx hce hlt hk
      go_wp2_with fail
      refine wp_region_held_drew (S:=fun w'=>Below wr.heap.size wr w') (by kernel_rfl) (below_drewN (Below.refl _ _) 1) (fun hHeld=>?_)
      refine tkp 0 (.pointer (some ⟨gc,0,none⟩)) hHeld ?_
      simp only [zq]
      refine tkp 1 (.pointer (some ⟨gc,0,none⟩)) hHeld ?_
      simp only [zq]
      refine tkp 2 (.pointer (some ⟨gc,0,none⟩)) hHeld ?_
      simp only [zq]
      refine tkg 3 (.pointer (some ⟨g,0,none⟩)) rfl (Or.inl ⟨by rfl,fun w hS=>by (have q1:=HG0.out _ (Zb HW9.out hS);go_simp)⟩) hHeld ?_
      simp only [zq]
      refine tkp 4 (.slice (some ⟨rb,0,none⟩) M rc) hHeld ?_
      simp only [zq]
      refine tkp 5 (.int .i64 (k:Int)) hHeld ?_
      simp only [zq]
      refine tkp 6 (.pointer (some ⟨rb,k,none⟩)) hHeld ?_
      simp only [zq]
      refine tkg 7 (.int .i64 y) rfl (Or.inl ⟨by rfl,fun w hS=>by (have q1:=HCE.out _ hS;go_simp)⟩) hHeld ?_
      simp only [zq]
      refine wpAnyH_ready (rs:=[8]) (by kernel_rfl) (by simp) ?_
      refine AllReadyH.cons rfl (fun KQ hK=>?_) AllReadyH.nil
      go_simp
      refine (HSN.out _ (Zb HW9.out hHeld)).mono ?_
      rintro e z1 ⟨rfl,a1⟩
      refine hK.out _ _ (Zb hHeld a1) (fun hHeld=>?_)
      clear hK KQ
      refine tkp 9 (.tuple #[.bool true,.int .i64 0]) hHeld ?_
      simp only [zq]
      refine tkp 10 (.bool true) hHeld ?_
      simp only [zq]
      refine tkp 11 (.int .i64 0) hHeld ?_
      simp only [zq]
      refine tkp 12 (.bool true) hHeld ?_
      simp only [zq]
      refine tkp 13 (.int .i64 0) hHeld ?_
      simp only [zq]
      refine wpAnyH_done (by kernel_rfl) ?_ _
      have HWa:=Za (Zb HW9.out hHeld)
      clear hHeld
      go_wp2_with fail
      exact ⟨⟨k+1,by omega,by go_num,HWa⟩,by simp [intOf];exact Zjd k1⟩
     ·obtain rfl:k=M:=by omega
      have nlt: ¬(k:Int)<(k:Int):=by omega
      have HWw:=Za (Zb HB8.out HW9.out)
      have zz:=HG0.out _ HW9.out
      by_cases m0:k=0
      ·have m1:(k:Int)=0:=by omega
       have HOC:Hid (Calls Tryz.prog 31 #[.pointer (some ⟨g,0,none⟩)] wr fun e w''=>e=.returned (.int .i64 0)∧Below wr.heap.size wr w''):=by
        have hR0:R=[]:=List.eq_nil_of_length_eq_zero (by rw [← HM.out];exact m0)
        obtain ⟨S,p7,_⟩:=HEX.out
        obtain ⟨S',hs⟩:=p7.hs
        have oc:=Yga (hs.grow HWw.out)
        have hh:=HHL.out
        rw [hR0] at hh
        rw [Ydh HAU.out.wf hh] at oc
        exact oc
       go_wp2_with (go_at_call 31;refine HOC.out.mono ?_;rintro e w9 ⟨rfl,b9⟩;have HB9:=Za b9;clear b9)
       go_ret
       exact ⟨rfl,Zb HQ3.out (Zb HWw.out HB9.out)⟩
      ·have m1: ¬(k:Int)=0:=by omega
       have m2:((k:Int) == 0)=false:=by simpa using m1
       obtain ⟨rb,x0,era,_,_⟩:=HIX.out 0 (by omega)
       subst era
       have hrc:k≤rc:=by
        obtain ⟨_,_,e,le⟩:=Zax (Zt HR8.out) (by omega)
        injection e with _ _ e3
        omega
       have HAL:Hid (∀w',Below wr.heap.size wr w'→∀j,j<k→w'.cell? ⟨rb,j,none⟩=some (.int .i64 ((zN R).getD j 0))):=fun w' hb j hj=>by
        obtain ⟨b,x,e,hx,hc⟩:=HIX.out j hj
        injection e with e
        injection e with e
        subst e
        rw [Zp (Zb HW9.out hb) hc]
        obtain ⟨hl,hx⟩:=List.getElem?_eq_some_iff.1 hx
        rw [Zqx R j hl,hx]
       have HPK:=Za (Yku out k wr (by omega) (by omega))
       have HKR:Hid (k=R.length):=HM.out
       go_wp2_with (go_at_call 32;refine HPK.out.mono ?_;rintro e zw ⟨⟨p,hp,rfl⟩,hz⟩;rw [hz];clear hz zw)
       have hpR:p<R.length:=by rw [← HKR.out];exact hp
       have i0:(0:Int)≤(p:Int):=by omega
       have i1:(p:Int)<(k:Int):=by omega
       have i2:(p:Int)+1≤(k:Int):=by omega
       have i3:(p:Int)≤(rc:Int):=by omega
       have i4:(p:Int)+1≤(rc:Int):=by omega
       have i5: ¬(rc:Int)<(k:Int):=by omega
       have i6:(k:Int)≤(rc:Int):=by omega
       have i7:(0:Int)≤(p:Int)+1:=by omega
       obtain ⟨ad,had,hadc⟩:∃ad:Addr,(if rc=p+1 then some (⟨rb,0,none⟩:Addr) else some ⟨rb,p+1,none⟩)=some ad∧∀j,p+1+j<k→ad.add j=⟨rb,p+1+j,none⟩:=by
        by_cases q:rc=p+1
        ·exact ⟨⟨rb,0,none⟩,by rw [if_pos q],fun j hj=>by omega⟩
        ·exact ⟨⟨rb,p+1,none⟩,by rw [if_neg q],fun j _=>by rw [Addr.add_lit]⟩
       have hwp:wrap64 ((p:Int)+1)=(p:Int)+1:=Go.IntWalk.wrap64_in _ (by omega)
       have hwi:IntKind.i64.wrap ((p:Int)+1)=(p:Int)+1:=(Go.IntWalk.i64_left _).trans hwp
       have HPF:=Za (⟨hp,hM10,hrc⟩:_∧_∧_)
       have HSRC1:Hid (∀w',Below wr.heap.size wr w'→∀j u,(((zN R).take p).map (Value.int .i64))[j]?=some u→w'.cell? ((⟨rb,0,none⟩:Addr).add j)=some u):=fun w' hb j u hu=>by
        have hj:j<p∧j<(zN R).length:=by
         have:=(List.getElem?_eq_some_iff.1 hu).1
         rw [List.length_map,List.length_take] at this
         omega
        rw [Addr.add_lit,Nat.zero_add,HAL.out _ hb j (by have:=HPF.out.1;omega),← hu,List.getElem?_map,List.getElem?_take_of_lt hj.1,List.getD_eq_getElem?_getD,List.getElem?_eq_getElem hj.2]
        rfl
       have HSRC2:Hid (∀w',Below wr.heap.size wr w'→∀j u,(((zN R).drop (p+1)).map (Value.int .i64))[j]?=some u→w'.cell? (ad.add j)=some u):=fun w' hb j u hu=>by
        have hj:p+1+j<(zN R).length:=by
         have:=(List.getElem?_eq_some_iff.1 hu).1
         rw [List.length_map,List.length_drop] at this
         omega
        have hjk:p+1+j<k:=by rw [HKR.out,← Zan];exact hj
        rw [hadc j hjk,HAL.out _ hb _ hjk,← hu,List.getElem?_map,List.getElem?_drop,List.getD_eq_getElem?_getD,List.getElem?_eq_getElem hj]
        rfl
       have HLK:=Za (Ydo HAU.out HHL.out HXX.out H10.out p hpR)
       have HPR:=Za hpR
       clear hadc hpR
       go_wp2_with fail
       refine wp_region_held_drew (S:=fun w'=>Below wr.heap.size wr w') (by kernel_rfl) (below_drewN (Below.refl _ _) 1) (fun hHeld=>?_)
       refine tkp 1 (.slice (some ⟨rb,0,none⟩) k rc) hHeld ?_
       simp only [zq]
       refine tkp 2 (.int .i64 (p:Int)) hHeld ?_
       simp only [zq]
       refine tkp 3 (.slice (some ⟨rb,0,none⟩) p rc) hHeld ?_
       simp only [zq]
       refine tkp 5 (.slice (some ⟨rb,0,none⟩) k rc) hHeld ?_
       simp only [zq]
       refine tkp 6 (.int .i64 (p:Int)) hHeld ?_
       simp only [zq]
       refine tkp 7 (.int .i64 ((p:Int)+1)) hHeld ?_
       simp only [zq]
       refine tkp 8 (.slice (some ad) (k-(p+1)) (rc-(p+1))) hHeld ?_
       simp only [zq]
       refine wpAnyH_ready (rs:=[0]) (by kernel_rfl) (by simp) ?_
       refine AllReadyH.cons rfl (fun KQ hK=>?_) AllReadyH.nil
       refine Zmu _ rfl rfl (fun o4 b4=>?_)
       refine hK.out _ _ (Zb hHeld b4) (fun hHeld=>?_)
       clear hK KQ
       have HO4:=Za o4
       have HB4:=Za b4
       have HH4:=Za hHeld
       clear o4 b4
       refine wpAnyH_ready (rs:=[4]) (by kernel_rfl) (by simp) ?_
       refine AllReadyH.cons rfl (fun KQ hK=>?_) AllReadyH.nil
       refine Zfw _ rfl _ _ _ rfl wr.drew.heap.size 3 1 8 Tryz.underlying30 Zae (by omega) _ 0 [] rfl HO4.out ⟨rb,0,none⟩ p rc (((zN R).take p).map (Value.int .i64)) rfl (by rw [List.length_map,List.length_take,Zan];have:=HPR.out;omega) (HSRC1.out _ HH4.out) (by intro u hu;obtain ⟨_,_,rfl⟩:=List.mem_map.1 hu;rfl) (by have:=HPF.out;simp only [maxLen];omega) (by have:=HPF.out;omega) HB4.out.size ?_
       intro v5 w5 o5 g5'
       have HB5:=Za (Zaa HB4.out HO4.out (Nat.le_refl _) g5')
       have HO5:=Za o5
       have HH5:Hid (Below wr.heap.size wr w5):=Zb (below_drewN (Below.refl wr.heap.size wr) 1) HB5.out
       refine hK.out _ _ HH5.out (fun hHeld=>?_)
       clear hK KQ o5 g5'
       refine wpAnyH_ready (rs:=[9]) (by kernel_rfl) (by simp) ?_
       refine AllReadyH.cons rfl (fun KQ hK=>?_) AllReadyH.nil
       refine Zfw _ rfl _ _ _ rfl wr.drew.heap.size 3 1 8 Tryz.underlying30 Zae (by omega) _ (0+p) _ rfl HO5.out ad (k-(p+1)) (rc-(p+1)) (((zN R).drop (p+1)).map (Value.int .i64)) rfl (by rw [List.length_map,List.length_drop,Zan,← HKR.out];omega) (HSRC2.out _ HH5.out) (by intro u hu;obtain ⟨_,_,rfl⟩:=List.mem_map.1 hu;rfl) (by have:=HPF.out;simp only [maxLen];omega) (by have:=HPF.out;omega) HB5.out.size ?_
       intro v6 w9 o6 g6'
       have HB9:=Za (Zaa HB5.out HO5.out (Nat.le_refl _) g6')
       have HR9:Hid (w9.ownsRow wr.drew.heap.size 3 1 v6 (R.take p++R.drop (p+1)).length ((zN (R.take p++R.drop (p+1))).map (Value.int .i64))):=(by show World.ownsRow _ _ _ _ _ _ _;have e1:(R.take p++R.drop (p+1)).length=0+p+(k-(p+1)):=(by rw [List.length_append,List.length_take,List.length_drop,← HKR.out];have:=HPF.out.1;omega);have e2:zN (R.take p++R.drop (p+1))=(zN R).take p++(zN R).drop (p+1):=(by rw [Yfm];simp [zN,List.map_take,List.map_drop]);rw [e1,e2,List.map_append];exact o6)
       have HH9:Hid (Below wr.heap.size wr w9):=Zb (below_drewN (Below.refl wr.heap.size wr) 1) HB9.out
       obtain ⟨a6,c6,hv6⟩:=Zi (Zt HR9.out)
       subst hv6
       refine hK.out _ _ HH9.out (fun hHeld=>?_)
       clear hK KQ o6 g6'
       refine tkp 10 (.slice a6 (R.take p++R.drop (p+1)).length c6) hHeld ?_
       simp only [zq]
       refine wpAnyH_done (by kernel_rfl) ?_ _
       have zg:=HG0.out _ (Zb HW9.out HH9.out)
       have HCK2:=Za (HLK.out wr.drew.heap.size w9 _ (Zb HWw.out HH9.out) HR9.out)
       have HZ8:=Za (Zb HQ3.out (Zb HWw.out HH9.out))
       generalize (R.take p++R.drop (p+1)).length=L6 at HCK2 ⊢
       clear hHeld HH4 HB4 HO4 HB5 HO5 HH5 HB9 HR9 HH9 HSRC1 HSRC2 HPF HAL HLK HPR had hwp hwi i0 i1 i2 i3 i4 i5 i6 i7 hrc
       go_wp2_with (go_at_call 17;refine HCK2.out.mono ?_;rintro e x9 ⟨fb,fc2,m,rfl,hm0,hm6,hcell,b9⟩;have HCL:=Za hcell;have HZ9:=Za (Zb HZ8.out b9);have m3: ¬(m:Int)=0:=(by omega);have m4:((m:Int) == 0)=false:=(by simpa using m3);clear hcell b9)
       clear HCK2 HZ8 m3 m4 m1 m2 nlt
       go_loopw [22] (fun iv wr2=>∃j:Nat,j≤m∧iv=.int .i64 (j:Int)∧Hid (Below x9.heap.size x9 wr2)) (fun iv _=>m-(intOf iv).toNat)
       case atStart=>exact ⟨0,by omega,rfl,Below.refl _ _⟩
       case round=>
        obtain ⟨j,hj,rfl,HY⟩:=hrel
        by_cases hlt2:j<m
        ·obtain ⟨xa,ya,hxy,c1,c2⟩:=HCL.out j hlt2
         have HC1:Hid (∀w',Below wr.heap.size wr w'→w'.cell? ⟨fb,j * 3+1,none⟩=some (.int .i64 (xa:Int))):=fun w' hb=>Zp (Zb HY.out hb) c1
         have HC2:Hid (∀w',Below wr.heap.size wr w'→w'.cell? ⟨fb,j * 3+2,none⟩=some (.int .i64 (ya:Int))):=fun w' hb=>Zp (Zb HY.out hb) c2
         have j0:(0:Int)≤(j:Int):=by omega
         have j1:(j:Int)<(m:Int):=by omega
         have g1: ¬(ya:Int)≤(xa:Int):=by omega
         have g2:(xa:Int)<(ya:Int):=by omega
         have hwj:wrap64 ((j:Int)+1)=((j+1:Nat):Int):=by rw [Go.IntWalk.wrap64_in _ (by omega)];rfl
         clear c1 c2
         go_wp2_with fail
         refine wp_region_held_drew (S:=fun w'=>Below wr.heap.size wr w') (by kernel_rfl) (below_drewN (Below.refl _ _) 1) (fun hHeld=>?_)
         refine tkp 0 (.slice (some ⟨fb,0,none⟩) m fc2) hHeld ?_
         simp only [zq]
         refine tkp 1 (.int .i64 (j:Int)) hHeld ?_
         simp only [zq]
         refine tkp 2 (.pointer (some ⟨fb,j * 3,none⟩)) hHeld ?_
         simp only [zq]
         refine tkp 3 (.pointer (some ⟨fb,j * 3+1,none⟩)) hHeld ?_
         simp only [zq]
         refine tkg 4 (.int .i64 (xa:Int)) rfl (Or.inl ⟨by rfl,fun w hS=>by (have q1:=HC1.out _ hS;go_simp)⟩) hHeld ?_
         simp only [zq]
         refine tkp 5 (.slice (some ⟨fb,0,none⟩) m fc2) hHeld ?_
         simp only [zq]
         refine tkp 6 (.int .i64 (j:Int)) hHeld ?_
         simp only [zq]
         refine tkp 7 (.pointer (some ⟨fb,j * 3,none⟩)) hHeld ?_
         simp only [zq]
         refine tkp 8 (.pointer (some ⟨fb,j * 3+2,none⟩)) hHeld ?_
         simp only [zq]
         refine tkg 9 (.int .i64 (ya:Int)) rfl (Or.inl ⟨by rfl,fun w hS=>by (have q1:=HC2.out _ hS;go_simp)⟩) hHeld ?_
         simp only [zq]
         refine tkp 10 (.bool false) hHeld ?_
         simp only [zq]
         refine wpAnyH_done (by kernel_rfl) ?_ _
         have HYa:=Za (Zb HY.out hHeld)
         clear hHeld
         go_wp2_with fail
         exact ⟨⟨j+1,by omega,by go_num,HYa⟩,by simp [intOf];exact Zjd j1⟩
        ·obtain rfl:j=m:=by omega
         have nlt3: ¬(j:Int)<(j:Int):=by omega
         go_wp2_with fail
         go_ret
         exact ⟨rfl,Zb HZ9.out HY.out⟩)
 ·have HL1:=Za (HLG.out true (by simp [hg]))
  clear HPL HLG
  go_enter Tryz.func7,Tryz.ntmps7
  go_wp2_with (first
   |(go_at_call 30;refine HAW.out.mono ?_;rintro e w1 ⟨rfl,q1⟩;have HQ1:=Za q1;clear q1)
   |(go_at_call 9;refine (HL1.out _ HQ1.out).mono ?_;rintro e w2 ⟨rfl,q2⟩;have HQ2:=Za (Zb HQ1.out q2);clear q2))
  go_ret
  exact ⟨rfl,HQ2.out⟩
open Go.ChangeShapes Go.WideShapes Go.ChangeAt Go.WideMaps Go.WideElems Go.RowKit
abbrev laid2:List (String×DataW Unit):=Rows.dropScriptRow.laid
abbrev nameOf (i:Nat):String:=(laid2.map (·.1)).getD i Rows.dropScriptRow.func
theorem Yln:Tryz.prog.globalNamed (nameOf 0)=some 0:=by kernel_rfl
theorem Yix:Tryz.prog.globalNamed (nameOf 1)=some 1:=by kernel_rfl
theorem Yjy:(Tryz.prog.globals[0]?).map (·.type)=some 271:=by kernel_rfl
theorem Ygt:(Tryz.prog.globals[1]?).map (·.type)=some 285:=by kernel_rfl
theorem Yes (os:Os) (args:Array Value):laidMetH Tryz.prog laid2 ((World.doorLaid Tryz.prog 400 os).forCall (fun _ _=>0) ⟨#[],args,[]⟩).memory:=
 laidMetH_of_parts3 (fuel:=8) (laidMet_of_run' 8 (by kernel_rfl) (by kernel_rfl)) (by kernel_rfl) (by kernel_rfl)
theorem Zvz:(Rows.laid_rootcellar_sha_first:DataW Unit)=Lib.tabData .u32 hs:=rfl
theorem Ztl:(Rows.laid_rootcellar_sha_rounds:DataW Unit)=Lib.tabData .u32 ks:=rfl
theorem Yez:Tryz.prog.cellsOf 271=8:=by kernel_rfl
theorem Yad:Tryz.prog.cellsOf 285=64:=by kernel_rfl
theorem Yae:Tryz.prog.cellsOf 209=1:=by kernel_rfl
theorem Yhx {W:World} (h:laidMetH Tryz.prog laid2 W):Laid W:=by
 rw [MakeChecks.laidMetH_plain _ _ _ (by kernel_rfl)] at h
 obtain ⟨ps,⟨g0,t0,cs0,f0,p0,q0,hg0,ht0,hv0,hd0,⟨g1,t1,cs1,f1,p1,q1,hg1,ht1,hv1,hd1,_,_⟩,_⟩,_,_⟩:=h
 obtain rfl:=Option.some.inj (Yln.symm.trans hg0)
 obtain rfl:=Option.some.inj (Yix.symm.trans hg1)
 obtain rfl:=Option.some.inj (Yjy.symm.trans ht0)
 obtain rfl:=Option.some.inj (Ygt.symm.trans ht1)
 rw [Zvz] at hd0
 rw [Ztl] at hd1
 have e0:=Lib.cells_of_tab Tryz.underlying271 Tryz.underlying209 Yae Yez hd0
 have e1:=Lib.cells_of_tab Tryz.underlying285 Tryz.underlying209 Yae Yad hd1
 have c1:∀i,i<64→W.cell? ⟨1,i,none⟩=some (.int .u32 (ks.getD i 0)):=by
  intro i hi
  rw [World.var?_cell hg1 hv1 i,← Array.getElem?_toList,e1,List.getElem?_map,List.getElem?_eq_getElem (show i<ks.length from hi)]
  simp [List.getD,show i<ks.length from hi]
 have c0:∀i,i<8→W.cell? ⟨0,i,none⟩=some (.int .u32 (hs.getD i 0)):=by
  intro i hi
  rw [World.var?_cell hg0 hv0 i,← Array.getElem?_toList,e0,List.getElem?_map,List.getElem?_eq_getElem (show i<hs.length from hi)]
  simp [List.getD,show i<hs.length from hi]
 exact ⟨block_lt_of_cell (c1 0 (by omega)),c1,c0⟩
end Go.Proofs.YtgfdgjkbcdmboaaGreatDoor
